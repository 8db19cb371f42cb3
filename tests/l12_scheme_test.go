package tests

import (
	"math"
	"math/rand"
	"slices"
	"testing"

	"loop.example/g01924/impl"
)

var schemes = []int{impl.SchemeCommitted, impl.SchemeSnapshot, impl.SchemeOptimistic, impl.SchemeOrdered}

// begun returns an active transaction with the ID 3 that began at begin and wrote these keys.
func begun(scheme, begin int, writes ...int) impl.Transaction {
	x := impl.Transaction{ID: 3, Scheme: scheme, State: 1, Begin: begin, High: 1000}
	for _, key := range writes {
		x.Writes = append(x.Writes, impl.Write{Key: key, Value: 7 * key})
	}
	return x
}

// beginsAround returns 0, 999, and all stamps that are equal to a Created or a Reader of the store, one less or one more.
func beginsAround(s impl.Store) []int {
	near := []int{0, 999}
	for _, l := range s.Chains {
		for _, v := range l {
			near = append(near, v.Created-1, v.Created, v.Created+1, v.Reader-1, v.Reader, v.Reader+1)
		}
	}
	near = slices.DeleteFunc(near, func(n int) bool { return n < 0 || n > 999 })
	slices.Sort(near)
	return slices.Compact(near)
}

// expectedChoice returns by the definition what a valid active transaction reads in a valid store.
func expectedChoice(s impl.Store, x impl.Transaction, key int) (impl.Version, int) {
	latest := latestIn(s, key)
	visible, ok := visibleVersion(s.Chains[key], x.Begin)
	switch {
	case x.Scheme == 2 && ok:
		return visible, 0
	case x.Scheme == 2 || x.Scheme == 4 && latest.Created > x.Begin:
		return impl.Version{}, 3
	}
	return latest, 0
}

func hasForeignLock(l []impl.Lock, id, key int) bool {
	return slices.ContainsFunc(l, func(lock impl.Lock) bool { return lock.Key == key && lock.Owner != id })
}

func expectedWriteCode(s impl.Store, l []impl.Lock, x impl.Transaction, key int) int {
	latest := latestIn(s, key)
	foreign, newer := hasForeignLock(l, x.ID, key), latest.Created > x.Begin
	switch {
	case x.Scheme == 1 && foreign:
		return 1
	case x.Scheme == 2 && (foreign || newer):
		return 2
	case x.Scheme == 4 && (newer || latest.Reader > x.Begin):
		return 3
	}
	return 0
}

func expectedCommitCode(s impl.Store, x impl.Transaction) int {
	newer := slices.ContainsFunc(x.Writes, func(w impl.Write) bool { return latestIn(s, w.Key).Created > x.Begin })
	if !newer {
		return 0
	}
	return map[int]int{2: 2, 4: 3}[x.Scheme]
}

func checkChoice(t *testing.T, s impl.Store, x impl.Transaction, key int) int {
	t.Helper()
	want, wantCode := expectedChoice(s, x, key)
	v, code := impl.ChooseVersion(s, x, key)
	if v != want || code != wantCode {
		t.Errorf("ChooseVersion(%v, %v, %d) = %v, %d, want %v, %d", s, x, key, v, code, want, wantCode)
	}
	return code
}

func checkWriteCode(t *testing.T, s impl.Store, l []impl.Lock, x impl.Transaction, key int) int {
	t.Helper()
	want := expectedWriteCode(s, l, x, key)
	code := impl.WriteCode(s, l, x, key)
	if code != want {
		t.Errorf("WriteCode(%v, %v, %v, %d) = %d, want %d", s, l, x, key, code, want)
	}
	return code
}

func checkCommitCode(t *testing.T, s impl.Store, x impl.Transaction) int {
	t.Helper()
	want := expectedCommitCode(s, x)
	code := impl.CommitCode(s, x)
	if code != want {
		t.Errorf("CommitCode(%v, %v) = %d, want %d", s, x, code, want)
	}
	return code
}

// checkInvalid expects CodeInvalid of all three functions, whatever else is against the access.
func checkInvalid(t *testing.T, what string, s impl.Store, x impl.Transaction, keys ...int) {
	t.Helper()
	if code := impl.CommitCode(s, x); code != impl.CodeInvalid {
		t.Errorf("%s: CommitCode(%v, %v) = %d", what, s, x, code)
	}
	for _, key := range keys {
		checkInvalidKey(t, what, s, x, key)
	}
}

func checkInvalidKey(t *testing.T, what string, s impl.Store, x impl.Transaction, key int) {
	t.Helper()
	if v, code := impl.ChooseVersion(s, x, key); v != (impl.Version{}) || code != impl.CodeInvalid {
		t.Errorf("%s: ChooseVersion(%v, %v, %d) = %v, %d", what, s, x, key, v, code)
	}
	for _, l := range [][]impl.Lock{nil, {{Key: key, Owner: x.ID}}, {{Key: key, Owner: 9}}, owners{8, 8, 8, 8, 8, 8}.locks()} {
		if code := impl.WriteCode(s, l, x, key); code != impl.CodeInvalid {
			t.Errorf("%s: WriteCode(%v, %v, %v, %d) = %d", what, s, l, x, key, code)
		}
	}
}

func TestCodeConstants(t *testing.T) {
	codes := [...]int{impl.CodeOk, impl.CodeBlocked, impl.CodeConflict, impl.CodeLate, impl.CodeDeadlock, impl.CodeExcluded, impl.CodeInvalid}
	if codes != [...]int{0, 1, 2, 3, 4, 5, 6} {
		t.Error(codes)
	}
}

func TestCodeName(t *testing.T) {
	names := map[int]string{0: "ok", 1: "blocked", 2: "conflict", 3: "late", 4: "deadlock", 5: "excluded", 6: "invalid"}
	numbers := slices.Concat(farInts, []int{math.MinInt, math.MaxInt, -1, impl.CodeInvalid + 1})
	for n := -300; n <= 300; n++ {
		numbers = append(numbers, n)
	}
	for _, n := range numbers {
		if got := impl.CodeName(n); got != names[n] {
			t.Errorf("CodeName(%d) = %q, want %q", n, got, names[n])
		}
	}
}

func TestTakesLocks(t *testing.T) {
	numbers := slices.Concat(farInts, []int{math.MinInt, math.MaxInt, 0, 1, 2, 3, 4, 5})
	for n := -300; n <= 300; n++ {
		numbers = append(numbers, n)
	}
	for _, n := range numbers {
		if got, want := impl.TakesLocks(n), n == 1 || n == 2; got != want {
			t.Errorf("TakesLocks(%d) = %t", n, got)
		}
	}
}

func TestChooseVersionAtEveryBegin(t *testing.T) {
	codes := map[[2]int]int{}
	for _, s := range windowStores() {
		for _, begin := range beginsAround(s) {
			for _, scheme := range schemes {
				for key := range impl.MaxKeys {
					codes[[2]int{scheme, checkChoice(t, s, begun(scheme, begin), key)}]++
				}
			}
		}
	}
	for _, reached := range [][2]int{{1, 0}, {2, 0}, {2, 3}, {3, 0}, {4, 0}, {4, 3}} {
		if codes[reached] < 20 {
			t.Errorf("the scheme %d has the code %d only %d times", reached[0], reached[1], codes[reached])
		}
	}
}

func TestCodesInRandomStores(t *testing.T) {
	random := rand.New(rand.NewSource(12))
	for range 300 {
		s := impl.NewStore()
		for key := range s.Chains {
			created := random.Intn(3) * random.Intn(30)
			s.Chains[key] = spreadChain(1+random.Intn(6), created, 1+random.Intn(9))
		}
		for range 20 {
			x := begun(schemes[random.Intn(4)], random.Intn(90), random.Intn(6))
			l := owners{1: random.Intn(10), 4: random.Intn(5)}.locks()
			for key := range impl.MaxKeys {
				checkChoice(t, s, x, key)
				checkWriteCode(t, s, l, x, key)
			}
			checkCommitCode(t, s, x)
		}
	}
}

// What a transaction with each of the schemes meets at a key, from a Begin long before the latest version to one long after it.
func TestAccessesAroundBegin(t *testing.T) {
	s := storeOfText(t, "0:-@0,2,3 1:5@4,6,inf", "1:7@4,4,inf")
	initial, five, seven := version(0, -1, 0, 2, 3), version(1, 5, 4, 6, 1000), version(1, 7, 4, 4, 1000)
	for _, c := range []struct {
		scheme, begin, key int
		read               impl.Version
		readCode           int
		writeCode          int
		commitCode         int
	}{
		{1, 0, 0, five, 0, 0, 0}, {1, 3, 0, five, 0, 0, 0}, {1, 4, 0, five, 0, 0, 0}, {1, 5, 0, five, 0, 0, 0}, {1, 999, 0, five, 0, 0, 0},
		{2, 0, 0, initial, 0, 2, 2}, {2, 3, 0, initial, 0, 2, 2}, {2, 4, 0, five, 0, 0, 0}, {2, 5, 0, five, 0, 0, 0}, {2, 999, 0, five, 0, 0, 0},
		{3, 0, 0, five, 0, 0, 0}, {3, 3, 0, five, 0, 0, 0}, {3, 4, 0, five, 0, 0, 0}, {3, 5, 0, five, 0, 0, 0}, {3, 999, 0, five, 0, 0, 0},
		{4, 0, 0, impl.Version{}, 3, 3, 3}, {4, 3, 0, impl.Version{}, 3, 3, 3}, {4, 4, 0, five, 0, 3, 0}, {4, 5, 0, five, 0, 3, 0}, {4, 6, 0, five, 0, 0, 0}, {4, 7, 0, five, 0, 0, 0}, {4, 999, 0, five, 0, 0, 0},
		// The oldest version of key 1 was created with the stamp 4.
		{1, 0, 1, seven, 0, 0, 0}, {1, 3, 1, seven, 0, 0, 0}, {1, 4, 1, seven, 0, 0, 0}, {1, 5, 1, seven, 0, 0, 0},
		{2, 0, 1, impl.Version{}, 3, 2, 2}, {2, 3, 1, impl.Version{}, 3, 2, 2}, {2, 4, 1, seven, 0, 0, 0}, {2, 5, 1, seven, 0, 0, 0},
		{3, 0, 1, seven, 0, 0, 0}, {3, 3, 1, seven, 0, 0, 0}, {3, 4, 1, seven, 0, 0, 0}, {3, 5, 1, seven, 0, 0, 0},
		{4, 0, 1, impl.Version{}, 3, 3, 3}, {4, 3, 1, impl.Version{}, 3, 3, 3}, {4, 4, 1, seven, 0, 0, 0}, {4, 5, 1, seven, 0, 0, 0},
	} {
		x := begun(c.scheme, c.begin, c.key)
		if v, code := impl.ChooseVersion(s, x, c.key); v != c.read || code != c.readCode {
			t.Errorf("scheme %d, Begin %d, key %d: the read is %v, %d, want %v, %d", c.scheme, c.begin, c.key, v, code, c.read, c.readCode)
		}
		if code := impl.WriteCode(s, nil, x, c.key); code != c.writeCode {
			t.Errorf("scheme %d, Begin %d, key %d: the code of the write is %d, want %d", c.scheme, c.begin, c.key, code, c.writeCode)
		}
		if code := impl.CommitCode(s, x); code != c.commitCode {
			t.Errorf("scheme %d, Begin %d, key %d: the code of the commit is %d, want %d", c.scheme, c.begin, c.key, code, c.commitCode)
		}
	}
}

// The limits of stamps: an initial version that was read, and one with the last stamp.
func TestAccessesAtTheLimitsOfStamps(t *testing.T) {
	s := storeOfText(t, "0:-@0,1,inf", "0:-@0,998,999 1:5@999,999,inf")
	for _, c := range []struct{ scheme, begin, key, readCode, writeCode, commitCode int }{
		{2, 0, 0, 0, 0, 0}, {4, 0, 0, 0, 3, 0}, {4, 1, 0, 0, 0, 0},
		{2, 998, 1, 0, 2, 2}, {2, 999, 1, 0, 0, 0}, {4, 998, 1, 3, 3, 3}, {4, 999, 1, 0, 0, 0}, {1, 0, 1, 0, 0, 0}, {3, 0, 1, 0, 0, 0},
	} {
		x := begun(c.scheme, c.begin, c.key)
		if code := checkChoice(t, s, x, c.key); code != c.readCode {
			t.Errorf("%v: the code of the read is %d", c, code)
		}
		if code := impl.WriteCode(s, nil, x, c.key); code != c.writeCode {
			t.Errorf("%v: the code of the write is %d", c, code)
		}
		if code := impl.CommitCode(s, x); code != c.commitCode {
			t.Errorf("%v: the code of the commit is %d", c, code)
		}
	}
}

// While others commit, a snapshot transaction reads the state of its begin, or what it has written itself, and the other schemes read the latest state.
func TestReadsWhileOthersCommit(t *testing.T) {
	for begin := range 13 {
		s := windowStore()
		atBegin := visibleState(s, begin)
		for stamp := 13; stamp <= 24; stamp++ {
			checkStateRead(t, s, begun(2, begin), atBegin)
			checkStateRead(t, s, begun(2, begin, 0, 3, 5), atBegin)
			for _, scheme := range []int{1, 3} {
				checkStateRead(t, s, begun(scheme, begin), visibleState(s, 999))
				checkStateRead(t, s, begun(scheme, begin, 1, 5), visibleState(s, 999))
			}
			writer := openTransaction(nil, stamp%3, 3+(stamp/3+begin)%3)
			for i := range writer.Writes {
				writer.Writes[i].Value = 30 + stamp
			}
			var ok bool
			if s, _, ok = impl.CommitTransaction(s, writer, stamp); !ok {
				t.Fatalf("no commit of %v with the stamp %d in %v", writer, stamp, s)
			}
		}
	}
}

// checkStateRead reads every key and expects the state, except where the transaction has written.
func checkStateRead(t *testing.T, s impl.Store, x impl.Transaction, state []int) {
	t.Helper()
	for key, want := range state {
		for _, w := range x.Writes {
			if w.Key == key {
				want = w.Value
			}
		}
		v, code := impl.ChooseVersion(s, x, key)
		value, ok := impl.ReadValue(s, x, key, v.Created)
		if code != impl.CodeOk || !ok || value != want || v.Value != state[key] {
			t.Errorf("%v reads of key %d in %v the value %d, %t of the version %v, with the code %d, want %d", x, key, s, value, ok, v, code, want)
		}
	}
}

// lockLists returns locks in which the transaction 3 and others own the same key, other keys, and all keys.
func lockLists(key int) [][]impl.Lock {
	lists := [][]impl.Lock{nil, {}, owners{3, 3, 3, 3, 3, 3}.locks(), owners{1, 1, 1, 1, 1, 1}.locks(), owners{9, 3, 9, 3, 9, 3}.locks(), owners{3, 9, 3, 9, 3, 9}.locks()}
	for _, owner := range []int{1, 2, 3, 4, 9} {
		lists = append(lists, lockList(key, owner))
		for _, other := range []int{2, 3} {
			var o owners
			o[key], o[(key+1)%6] = owner, other
			lists = append(lists, o.locks())
			o[(key+5)%6] = 8
			lists = append(lists, o.locks())
			o[key] = 0
			lists = append(lists, o.locks())
		}
	}
	return lists
}

func TestWriteCodeAtEveryBegin(t *testing.T) {
	codes := map[[2]int]int{}
	for _, s := range []impl.Store{windowStore(), narrowStore(), readStore(), writeStore(), impl.NewStore()} {
		for _, begin := range beginsAround(s) {
			for _, scheme := range schemes {
				for key := range impl.MaxKeys {
					for _, l := range lockLists(key) {
						codes[[2]int{scheme, checkWriteCode(t, s, l, begun(scheme, begin), key)}]++
					}
				}
			}
		}
	}
	for _, reached := range [][2]int{{1, 0}, {1, 1}, {2, 0}, {2, 2}, {3, 0}, {4, 0}, {4, 3}} {
		if codes[reached] < 20 {
			t.Errorf("the scheme %d has the code %d only %d times", reached[0], reached[1], codes[reached])
		}
	}
}

func TestWriteCodeInEveryStore(t *testing.T) {
	for _, s := range windowStores() {
		for _, begin := range beginsAround(s) {
			for key := range impl.MaxKeys {
				scheme := schemes[(begin+key)%4]
				for _, l := range [][]impl.Lock{nil, lockList(key, 3), lockList(key, 5)} {
					checkWriteCode(t, s, l, begun(scheme, begin), key)
				}
			}
		}
	}
}

func TestWriteCodeOfEveryOwner(t *testing.T) {
	s := windowStore()
	for _, o := range ownersFrom(1, 4) {
		for _, scheme := range schemes {
			x := begun(scheme, 8)
			x.ID = 4
			for key := range impl.MaxKeys {
				checkWriteCode(t, s, o.locks(), x, key)
			}
		}
	}
	for id := 1; id <= impl.MaxTransactionID; id++ {
		for owner := 1; owner <= impl.MaxTransactionID; owner++ {
			for _, scheme := range schemes {
				x := begun(scheme, 12)
				x.ID = id
				checkWriteCode(t, s, lockList(2, owner), x, 2)
				checkWriteCode(t, s, lockList(1, owner, 3, 10-owner), x, 2)
			}
		}
	}
}

// Locks and a latest version after Begin, each alone and both together.
func TestWriteCodeLiterals(t *testing.T) {
	s := storeOfText(t, "0:-@0,2,3 1:5@4,4,inf", "0:-@0,2,3 1:5@4,6,inf")
	none, own, foreign, elsewhere := []impl.Lock(nil), lockList(0, 3, 1, 3), lockList(0, 7, 1, 7), lockList(2, 7, 5, 1)
	for _, c := range []struct {
		name   string
		locks  []impl.Lock
		begin  int
		scheme [5]int
	}{
		{"no lock, created before Begin", none, 5, [5]int{1: 0, 2: 0, 3: 0, 4: 0}},
		{"own lock, created before Begin", own, 5, [5]int{1: 0, 2: 0, 3: 0, 4: 0}},
		{"foreign lock, created before Begin", foreign, 5, [5]int{1: 1, 2: 2, 3: 0, 4: 0}},
		{"foreign locks of other keys, created before Begin", elsewhere, 5, [5]int{1: 0, 2: 0, 3: 0, 4: 0}},
		{"no lock, created at Begin", none, 4, [5]int{1: 0, 2: 0, 3: 0, 4: 0}},
		{"own lock, created at Begin", own, 4, [5]int{1: 0, 2: 0, 3: 0, 4: 0}},
		{"foreign lock, created at Begin", foreign, 4, [5]int{1: 1, 2: 2, 3: 0, 4: 0}},
		{"foreign locks of other keys, created at Begin", elsewhere, 4, [5]int{1: 0, 2: 0, 3: 0, 4: 0}},
		{"no lock, created after Begin", none, 3, [5]int{1: 0, 2: 2, 3: 0, 4: 3}},
		{"own lock, created after Begin", own, 3, [5]int{1: 0, 2: 2, 3: 0, 4: 3}},
		{"foreign lock, created after Begin", foreign, 3, [5]int{1: 1, 2: 2, 3: 0, 4: 3}},
		{"foreign locks of other keys, created after Begin", elsewhere, 3, [5]int{1: 0, 2: 2, 3: 0, 4: 3}},
	} {
		for _, scheme := range schemes {
			if code := impl.WriteCode(s, c.locks, begun(scheme, c.begin), 0); code != c.scheme[scheme] {
				t.Errorf("%s, scheme %d: %d, want %d", c.name, scheme, code, c.scheme[scheme])
			}
		}
	}
	for begin, want := range map[int]int{4: 3, 5: 3, 6: 0, 7: 0} {
		for _, l := range [][]impl.Lock{none, own, foreign} {
			if code := impl.WriteCode(s, l, begun(4, begin), 1); code != want {
				t.Errorf("ordered, Begin %d, Reader 6, locks %v: %d, want %d", begin, l, code, want)
			}
		}
	}
}

func TestCommitCodeOfEverySetOfKeys(t *testing.T) {
	codes := map[[2]int]int{}
	for _, s := range windowStores() {
		for i, begin := range beginsAround(s) {
			for set := range 1 << impl.MaxKeys {
				var keys []int
				for key := range impl.MaxKeys {
					if set>>key&1 == 1 {
						keys = append(keys, key)
					}
				}
				scheme := schemes[(i+set)%4]
				codes[[2]int{scheme, checkCommitCode(t, s, begun(scheme, begin, keys...))}]++
			}
		}
	}
	for _, reached := range [][2]int{{1, 0}, {2, 0}, {2, 2}, {3, 0}, {4, 0}, {4, 3}} {
		if codes[reached] < 20 {
			t.Errorf("the scheme %d has the code %d only %d times", reached[0], reached[1], codes[reached])
		}
	}
}

// The latest versions of the keys 1, 3 and 5 are after Begin, which is 6, and those of 0, 2 and 4 at or before it.
func TestCommitCodeLiterals(t *testing.T) {
	s := storeOfText(t, "0:-@0,9,inf", "0:-@0,1,2 1:5@7,7,inf", "0:-@0,1,2 1:5@6,9,inf", "3:4@7,8,inf", "0:-@0,1,2 1:5@5,5,inf", "0:-@0,1,2 1:5@3,4,9 2:6@9,9,inf")
	for _, c := range []struct {
		name  string
		keys  []int
		after bool
	}{
		{"no writes", nil, false},
		{"one, before Begin", []int{4}, false},
		{"one, at Begin", []int{2}, false},
		{"one, after Begin", []int{1}, true},
		{"one, whose older version is before Begin", []int{5}, true},
		{"one, whose only version is after Begin", []int{3}, true},
		{"none of several", []int{0, 2, 4}, false},
		{"the first one of several", []int{1, 2, 4}, true},
		{"the last one of several", []int{0, 2, 3}, true},
		{"the one in the middle", []int{0, 3, 4}, true},
		{"all but one", []int{1, 2, 3, 5}, true},
		{"all keys", []int{0, 1, 2, 3, 4, 5}, true},
	} {
		for _, scheme := range schemes {
			want := impl.CodeOk
			if c.after && scheme == impl.SchemeSnapshot {
				want = impl.CodeConflict
			}
			if c.after && scheme == impl.SchemeOrdered {
				want = impl.CodeLate
			}
			x := begun(scheme, 6, c.keys...)
			if code := impl.CommitCode(s, x); code != want {
				t.Errorf("%s, scheme %d: %d, want %d", c.name, scheme, code, want)
			}
			// What was only read does not count.
			x.Reads = []impl.ReadMark{{Key: 1}, {Key: 1, Created: 7}, {Key: 3, Created: 7}, {Key: 5, Created: 3}}
			if code := impl.CommitCode(s, x); code != want {
				t.Errorf("%s, scheme %d, with reads: %d, want %d", c.name, scheme, code, want)
			}
		}
	}
}

// Only the scheme, Begin, the ID and the written keys decide: not what was read, the window or the values.
func TestCodesDoNotDependOnTheRest(t *testing.T) {
	s := windowStore()
	for _, begin := range beginsAround(s) {
		for _, scheme := range schemes {
			x := begun(scheme, begin, 1, 4)
			x.Low, x.High = 900, 1
			x.Reads = []impl.ReadMark{{Key: 0, Created: 3}, {Key: 1, Created: 777}, {Key: 2}, {Key: 4, Created: 6}}
			x.Writes[0].Value, x.Writes[1].Value = -1, 99
			for key := range impl.MaxKeys {
				checkChoice(t, s, x, key)
				checkWriteCode(t, s, nil, x, key)
				checkWriteCode(t, s, lockList(key, 3), x, key)
				checkWriteCode(t, s, lockList(key, 2), x, key)
			}
			checkCommitCode(t, s, x)
			x.Reads = spreadReads(10)
			checkCommitCode(t, s, x)
			checkChoice(t, s, x, 2)
		}
	}
}

func TestInvalidStoresHaveNoAccess(t *testing.T) {
	for _, s := range invalidStores() {
		for _, scheme := range schemes {
			for _, begin := range []int{0, 999} {
				checkInvalid(t, "store", s, begun(scheme, begin), -1, 0, 1, 2, 3, 4, 5, 6)
				checkInvalid(t, "store", s, begun(scheme, begin, 0, 1, 2, 3, 4, 5), 0, 5)
			}
		}
	}
}

func TestInvalidTransactionsHaveNoAccess(t *testing.T) {
	for _, s := range []impl.Store{readStore(), mixedStore(), impl.NewStore(), {}} {
		for _, x := range invalidTransactions() {
			checkInvalid(t, "transaction", s, x, -1, 0, 1, 2, 3, 4, 5, 6)
			if x.Scheme != impl.SchemeSnapshot {
				continue
			}
			for _, scheme := range schemes {
				x.Scheme = scheme
				checkInvalid(t, "transaction", s, x, 0, 4)
			}
		}
		for _, scheme := range []int{-1, 0, 5, 6} {
			checkInvalid(t, "scheme", s, begun(scheme, 9, 0, 2), 0, 1, 2, 3, 4, 5)
		}
		for _, begin := range []int{-2, -1, 1000, 1001} {
			for _, scheme := range schemes {
				checkInvalid(t, "Begin", s, begun(scheme, begin, 0, 2), 0, 1, 2, 3, 4, 5)
			}
		}
	}
}

func TestEndedTransactionsHaveNoAccess(t *testing.T) {
	for _, s := range windowStores() {
		for _, scheme := range schemes {
			for _, begin := range []int{0, 8, 12, 999} {
				for _, x := range inEveryState(begun(scheme, begin, 1, 2))[1:] {
					checkInvalid(t, "ended", s, x, -1, 0, 1, 2, 3, 4, 5, 6)
				}
			}
		}
	}
}

func TestNoAccessToKeysThatDoNotExist(t *testing.T) {
	for _, s := range []impl.Store{impl.NewStore(), windowStore(), mixedStore()} {
		for _, scheme := range schemes {
			for _, begin := range []int{0, 8, 999} {
				for _, key := range slices.Concat(farInts, []int{-6, -1, impl.MaxKeys, impl.MaxKeys + 1, 256, 1000}) {
					checkInvalidKey(t, "key", s, begun(scheme, begin, 0, 5), key)
				}
			}
		}
	}
}

// Locks that are not valid are refused with every scheme, also with those that take none, and whatever the versions say.
func TestWriteCodeRefusesInvalidLocks(t *testing.T) {
	for _, s := range []impl.Store{impl.NewStore(), windowStore()} {
		for _, l := range invalidLocks() {
			for _, scheme := range schemes {
				for key := range impl.MaxKeys {
					for _, begin := range []int{0, 999} {
						if code := impl.WriteCode(s, l, begun(scheme, begin), key); code != impl.CodeInvalid {
							t.Errorf("WriteCode with the locks %v, scheme %d, Begin %d, key %d: %d", l, scheme, begin, key, code)
						}
					}
				}
			}
		}
	}
}

func TestShortLockListsInWriteCode(t *testing.T) {
	s := windowStore()
	for i, l := range shortLockLists() {
		x := begun(schemes[i%4], 8)
		x.ID = 1
		for _, key := range []int{0, 2, 4, 5} {
			if areLocks(l) {
				checkWriteCode(t, s, l, x, key)
			} else if code := impl.WriteCode(s, l, x, key); code != impl.CodeInvalid {
				t.Errorf("WriteCode with the locks %v, key %d: %d", l, key, code)
			}
		}
	}
}

// CodeInvalid comes before what the scheme says: each access here is refused by its scheme as well.
func TestInvalidBeforeOtherCodes(t *testing.T) {
	s := storeOfText(t, "3:4@7,8,inf")
	foreign := lockList(0, 9)
	for scheme, codes := range map[int][3]int{1: {0, 1, 0}, 2: {3, 2, 2}, 3: {0, 0, 0}, 4: {3, 3, 3}} {
		x := begun(scheme, 5, 0)
		_, read := impl.ChooseVersion(s, x, 0)
		if got := [3]int{read, impl.WriteCode(s, foreign, x, 0), impl.CommitCode(s, x)}; got != codes {
			t.Errorf("scheme %d: the codes are %v, want %v", scheme, got, codes)
		}
		broken := cloneStore(s)
		broken.Chains[5] = nil
		checkInvalid(t, "store", broken, x, 0)
		wrong := x
		wrong.High = 0
		checkInvalid(t, "transaction", s, wrong, 0)
		for _, ended := range inEveryState(x)[1:] {
			checkInvalid(t, "ended", s, ended, 0)
			checkInvalid(t, "ended and store", broken, ended, 0, -1)
		}
		checkInvalidKey(t, "key", s, x, -1)
		checkInvalidKey(t, "key", s, x, impl.MaxKeys)
		for _, l := range [][]impl.Lock{lockList(0, 9, 0, 9), lockList(0, 9, 6, 1), lockList(0, 9, 5, 0), lockList(0, 10)} {
			if code := impl.WriteCode(s, l, x, 0); code != impl.CodeInvalid {
				t.Errorf("scheme %d, locks %v: %d", scheme, l, code)
			}
		}
	}
}

func TestCodesLeaveArguments(t *testing.T) {
	stores := append(invalidStores(), windowStore(), readStore(), mixedStore())
	transactions := slices.Concat(activeReaders(), inEveryState(fullTransaction()), invalidTransactions()[:40])
	for _, scheme := range schemes {
		transactions = append(transactions, begun(scheme, 8, 1, 2, 4), begun(scheme, 0), begun(scheme, 999, 5))
	}
	for _, whole := range stores {
		s, stays := storeWithSpare(whole)
		for _, x := range transactions {
			part, longer := withSpare(x)
			before := cloneTransaction(longer)
			for key := -1; key <= impl.MaxKeys; key++ {
				impl.ChooseVersion(s, part, key)
				impl.CommitCode(s, part)
				for _, l := range [][]impl.Lock{nil, lockList(2, 3), lockList(1, 7, 4, 3), lockList(4, 3, 1, 7)} {
					checkListKept(t, "WriteCode", l, impl.Lock{Key: 2, Owner: 7}, func(locks []impl.Lock) []impl.Lock {
						impl.WriteCode(s, locks, part, key)
						return nil
					})
				}
			}
			if !sameTransaction(longer, before) || !sameTransaction(part, x) {
				t.Fatalf("the transaction %v is modified: %v", x, longer)
			}
		}
		if !stays() {
			t.Fatalf("the store is modified: %v", s)
		}
	}
}
