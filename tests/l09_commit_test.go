package tests

import (
	"math"
	"math/rand"
	"slices"
	"testing"

	"loop.example/g01924/impl"
)

// hasRoomForVersions reports whether no chain has more than 50 versions after a commit of the transaction.
func hasRoomForVersions(s impl.Store, x impl.Transaction) bool {
	for _, w := range x.Writes {
		if len(s.Chains[w.Key])+1 > 50 {
			return false
		}
	}
	return true
}

// expectedCommit returns by the definition what a commit makes of a valid store and a valid transaction.
func expectedCommit(s impl.Store, x impl.Transaction, stamp int) (impl.Store, impl.Transaction, bool) {
	if !expectedOutcome(s, x, stamp).may {
		return cloneStore(s), cloneTransaction(x), false
	}
	return expectedCommitAnyway(s, x, stamp)
}

// expectedCommitAnyway is the definition without the condition that the window has room.
func expectedCommitAnyway(s impl.Store, x impl.Transaction, stamp int) (impl.Store, impl.Transaction, bool) {
	store, y := cloneStore(s), cloneTransaction(x)
	o := expectedOutcome(s, x, stamp)
	if !o.window || !hasRoomForVersions(s, x) {
		return store, y, false
	}
	for key, l := range store.Chains {
		for i, v := range l {
			if slices.Contains(x.Reads, impl.ReadMark{Key: key, Created: v.Created}) {
				l[i].Reader = stamp
			}
		}
		for _, w := range x.Writes {
			if w.Key == key {
				l[len(l)-1].Successor = o.high
				store.Chains[key] = append(l, version(x.ID, w.Value, stamp, stamp, 1000))
			}
		}
	}
	y.Low, y.High, y.State, y.Commit = o.low, o.high, 2, stamp
	return store, y, true
}

// checkCommit commits and compares the results with the definition, in which the store and the transaction are valid.
func checkCommit(t *testing.T, what string, s impl.Store, x impl.Transaction, stamp int) (impl.Store, impl.Transaction, bool) {
	t.Helper()
	wantStore, want, wantOK := expectedCommit(s, x, stamp)
	before, storeBefore := cloneTransaction(x), cloneStore(s)
	store, y, ok := impl.CommitTransaction(s, x, stamp)
	if ok != wantOK || !impl.EqualStores(store, wantStore) || !sameTransaction(y, want) {
		t.Errorf("%s: the commit of %v with the stamp %d in %v is %v, %v, %t, want %v, %v, %t", what, before, stamp, storeBefore, store, y, ok, wantStore, want, wantOK)
	}
	if !sameTransaction(x, before) || !impl.EqualStores(s, storeBefore) {
		t.Errorf("%s: CommitTransaction changes its arguments %v and %v to %v and %v", what, storeBefore, before, s, x)
	}
	if !impl.IsValidStore(store) || !impl.IsValidTransaction(y) {
		t.Errorf("%s: after the commit of %v with the stamp %d in %v not valid: %v, %v", what, x, stamp, s, store, y)
	}
	if ok {
		checkInstalled(t, what, s, store, y)
	}
	return store, y, ok
}

// checkInstalled compares the store before and after the commit of the transaction: one version for each write, and no other.
func checkInstalled(t *testing.T, what string, before, after impl.Store, x impl.Transaction) {
	t.Helper()
	var want []impl.Version
	for _, w := range x.Writes {
		want = append(want, version(x.ID, w.Value, x.Commit, x.Commit, 1000))
	}
	if got := impl.InstalledVersions(after, x); !slices.Equal(got, want) {
		t.Errorf("%s: InstalledVersions(%v, %v) = %v, want %v", what, after, x, got, want)
	}
	if got := impl.InstalledVersions(before, x); len(got) != 0 {
		t.Errorf("%s: before the commit InstalledVersions(%v, %v) = %v", what, before, x, got)
	}
	for key, l := range after.Chains {
		n := 0
		if slices.ContainsFunc(x.Writes, func(w impl.Write) bool { return w.Key == key }) {
			n = 1
		}
		if len(l) != len(before.Chains[key])+n {
			t.Errorf("%s: %d versions of key %d become %d with the commit of %v", what, len(before.Chains[key]), key, len(l), x)
		}
	}
}

// checkNoCommit expects both arguments unchanged and false, for any arguments, and no memory that is shared.
func checkNoCommit(t *testing.T, what string, s impl.Store, x impl.Transaction, stamp int) {
	t.Helper()
	partStore, stays := storeWithSpare(s)
	part, whole := withSpare(x)
	before := cloneTransaction(whole)
	store, y, ok := impl.CommitTransaction(partStore, part, stamp)
	if ok || !impl.EqualStores(store, s) || !sameTransaction(y, x) {
		t.Errorf("%s: the commit of %v with the stamp %d in %v is %v, %v, %t", what, x, stamp, s, store, y, ok)
	}
	overwriteResults(t, what, store, y)
	if !stays() || !sameTransaction(whole, before) || !sameTransaction(part, x) {
		t.Errorf("%s: CommitTransaction, or writing into its results, changes its arguments %v and %v to %v and %v", what, s, before, partStore, whole)
	}
}

// overwriteResults writes into all memory of a store and a transaction and expects that no list shows what is written into another one.
func overwriteResults(t *testing.T, what string, s impl.Store, x impl.Transaction) {
	t.Helper()
	reads, writes := x.Reads[:cap(x.Reads)], x.Writes[:cap(x.Writes)]
	for i, l := range s.Chains {
		l = l[:cap(l)]
		for n := range l {
			l[n] = version(-7, i, n, -7, -7)
		}
	}
	for n := range reads {
		reads[n] = impl.ReadMark{Key: -7, Created: n}
	}
	for n := range writes {
		writes[n] = impl.Write{Key: -7, Value: n}
	}
	for i, l := range s.Chains {
		l = l[:cap(l)]
		for n, v := range l {
			if v != version(-7, i, n, -7, -7) {
				t.Errorf("%s: chain %d shares memory with another list", what, i)
			}
		}
	}
	chains := s.Chains[:cap(s.Chains)]
	for i := range chains {
		chains[i] = nil
	}
}

// roomyTransactions returns active transactions with many sets of reads and writes, most of which may commit in the store.
func roomyTransactions(s impl.Store) []impl.Transaction {
	var l []impl.Transaction
	marks := marksOf(s)
	sets := [][]impl.ReadMark{nil, marks[:1], marks[len(marks)-1:], marks[len(marks)/2 : len(marks)/2+1], marks[:min(len(marks), 60)]}
	var latest []impl.ReadMark
	for key := range s.Chains {
		latest = append(latest, impl.ReadMark{Key: key, Created: latestIn(s, key).Created})
	}
	sets = append(sets, latest, latest[1:2], latest[2:5])
	for i, reads := range sets {
		for _, writes := range [][]int{nil, {0}, {1}, {2, 3}, {0, 4, 5}, {5}, {0, 1, 2, 3, 4, 5}} {
			x := openTransaction(reads, writes...)
			x.ID, x.Scheme = 1+(i+len(writes))%9, 1+i%4
			l = append(l, x)
		}
	}
	return l
}

func TestCommitInEveryStore(t *testing.T) {
	commits := 0
	for _, s := range windowStores() {
		for _, x := range roomyTransactions(s) {
			for _, stamp := range freeStamps(s) {
				if _, _, ok := checkCommit(t, "store", s, x, stamp); ok {
					commits++
				}
			}
		}
	}
	if commits < 500 {
		t.Errorf("only %d commits", commits)
	}
}

func TestCommitOfEverySetOfKeys(t *testing.T) {
	for _, s := range []impl.Store{windowStore(), readStore(), narrowStore(), impl.NewStore()} {
		stamp := greatestStamp(s) + 1
		for set := range 1 << (2 * impl.MaxKeys) {
			x := openTransaction(nil)
			for key := range impl.MaxKeys {
				if set>>key&1 == 1 {
					x.Reads = append(x.Reads, impl.ReadMark{Key: key, Created: latestIn(s, key).Created})
				}
				if set>>(impl.MaxKeys+key)&1 == 1 {
					x.Writes = append(x.Writes, impl.Write{Key: key, Value: (set+key)%101 - 1})
				}
			}
			if _, _, ok := checkCommit(t, "set of keys", s, x, stamp); !ok {
				t.Fatalf("%v, which read latest versions only, does not commit in %v", x, s)
			}
		}
	}
}

func TestCommitOfEverySmallSetOfVersions(t *testing.T) {
	results := map[bool]int{}
	for _, s := range []impl.Store{windowStore(), narrowStore(), readStore()} {
		marks := marksOf(s)
		last := greatestStamp(s)
		for set := range 1 << len(marks) {
			var reads []impl.ReadMark
			for i, m := range marks {
				if set>>i&1 == 1 {
					reads = append(reads, m)
				}
			}
			if len(reads) > 3 {
				continue
			}
			for _, writes := range [][]int{nil, {0}, {set % 6}, {set % 3, 3 + set%2, 5}} {
				x := openTransaction(reads, writes...)
				x.Low, x.High = []int{0, 0, 5, 13}[set%4], []int{1000, 1000, 9, 14}[set/2%4]
				_, _, ok := checkCommit(t, "set of versions", s, x, last+1+set%3)
				results[ok]++
			}
		}
	}
	if results[true] < 100 || results[false] < 100 {
		t.Errorf("the numbers of results are %v", results)
	}
}

// keyTexts returns the chains of all keys, formatted.
func keyTexts(s impl.Store) []string {
	var l []string
	for _, chain := range s.Chains {
		l = append(l, impl.FormatChain(chain))
	}
	return l
}

// What a commit with the stamp 9 does to the versions of key 0.
func TestCommitOfOneKey(t *testing.T) {
	m := func(created int) impl.ReadMark { return impl.ReadMark{Key: 0, Created: created} }
	cases := []struct {
		name      string
		before    string
		reads     []impl.ReadMark
		writes    []impl.Write
		after     string
		low, high int
	}{
		{"read and overwritten", "0:-@0,1,2 1:5@2,4,inf", []impl.ReadMark{m(2)}, []impl.Write{{Value: 7}}, "0:-@0,1,2 1:5@2,9,9 3:7@9,9,inf", 4, 9},
		{"read and overwritten initially", "0:-@0,0,inf", []impl.ReadMark{m(0)}, []impl.Write{{Value: 7}}, "0:-@0,9,9 3:7@9,9,inf", 0, 9},
		{"only read", "0:-@0,1,2 1:5@2,4,inf", []impl.ReadMark{m(2)}, nil, "0:-@0,1,2 1:5@2,9,inf", 2, 9},
		{"only overwritten", "0:-@0,1,2 1:5@2,4,inf", nil, []impl.Write{{Value: 7}}, "0:-@0,1,2 1:5@2,4,9 3:7@9,9,inf", 4, 9},
		{"an older one read", "0:-@0,1,2 1:5@2,4,inf", []impl.ReadMark{m(0)}, nil, "0:-@0,9,2 1:5@2,4,inf", 0, 2},
		{"an older one read, the next one without its last commit", "1:5@2,3,8 2:6@8,8,inf", []impl.ReadMark{m(2)}, nil, "1:5@2,9,8 2:6@8,8,inf", 2, 8},
		{"one in the middle read", "0:-@0,1,2 1:5@2,3,4 2:6@5,5,inf", []impl.ReadMark{m(2)}, nil, "0:-@0,1,2 1:5@2,9,4 2:6@5,5,inf", 2, 4},
		{"neither read nor written", "0:-@0,1,2 1:5@2,4,inf", nil, nil, "0:-@0,1,2 1:5@2,4,inf", 0, 9},
		{"Absent written", "0:-@0,1,2 1:5@2,4,inf", nil, []impl.Write{{Value: -1}}, "0:-@0,1,2 1:5@2,4,9 3:-@9,9,inf", 4, 9},
		{"Absent written over Absent", "0:-@0,0,inf", nil, []impl.Write{{Value: -1}}, "0:-@0,0,9 3:-@9,9,inf", 0, 9},
		{"Absent written after a read", "0:-@0,1,2 1:5@2,4,inf", []impl.ReadMark{m(2)}, []impl.Write{{Value: -1}}, "0:-@0,1,2 1:5@2,9,9 3:-@9,9,inf", 4, 9},
		{"the same value written", "0:-@0,1,2 1:5@2,4,inf", nil, []impl.Write{{Value: 5}}, "0:-@0,1,2 1:5@2,4,9 3:5@9,9,inf", 4, 9},
		{"the greatest value written", "0:-@0,0,inf", nil, []impl.Write{{Value: 99}}, "0:-@0,0,9 3:99@9,9,inf", 0, 9},
		{"without its initial version", "4:5@2,4,inf", []impl.ReadMark{m(2)}, []impl.Write{{Value: 7}}, "4:5@2,9,9 3:7@9,9,inf", 4, 9},
		{"a version of the same writer overwritten", "0:-@0,0,2 3:5@2,2,inf", []impl.ReadMark{m(2)}, []impl.Write{{Value: 7}}, "0:-@0,0,2 3:5@2,9,9 3:7@9,9,inf", 2, 9},
	}
	for _, c := range cases {
		x, _ := impl.NewTransaction(3, impl.SchemeOptimistic, 1)
		x.Reads, x.Writes = c.reads, c.writes
		store, y, ok := checkCommit(t, c.name, storeOfText(t, c.before), x, 9)
		if !ok || impl.FormatChain(store.Chains[0]) != c.after || y.Low != c.low || y.High != c.high {
			t.Errorf("%s: %q with the window %d, %d, %t, want %q with %d, %d", c.name, impl.FormatChain(store.Chains[0]), y.Low, y.High, ok, c.after, c.low, c.high)
		}
		if rest := impl.NewStore().Chains[1:]; !slices.EqualFunc(store.Chains[1:], rest, impl.EqualChains) {
			t.Errorf("%s: the other keys are %v", c.name, store.Chains[1:])
		}
	}
}

// storeOfText returns a store with these chains of the first keys.
func storeOfText(t *testing.T, chains ...string) impl.Store {
	t.Helper()
	s := impl.NewStore()
	for key, text := range chains {
		l, ok := impl.ParseChain(text)
		if !ok {
			t.Fatal("no chain:", text)
		}
		s.Chains[key] = l
	}
	return s
}

// What read a version that is overwritten has no room after the version that follows it: the commit is refused, and no mark changes.
func TestNoCommitWithTwoVersionsOfOneKey(t *testing.T) {
	for _, chain := range []string{"0:-@0,1,2 1:5@2,4,inf", "0:-@0,0,1 1:5@1,1,inf", "1:5@2,3,8 2:6@8,8,inf", "0:-@0,1,2 1:5@2,3,4 2:6@5,5,inf"} {
		s := storeOfText(t, chain)
		marks := marksOf(s)[:len(s.Chains[0])]
		last := len(marks) - 1
		for _, x := range []impl.Transaction{
			openTransaction(marks), openTransaction(marks[last-1:]), openTransaction(marks, 0), openTransaction(marks[last-1:last], 0), openTransaction(marks[last-1:], 0, 3),
		} {
			for _, stamp := range freeStamps(s) {
				if _, _, ok := checkCommit(t, "two versions", s, x, stamp); ok {
					t.Errorf("%v commits in %q", x, chain)
				}
				checkNoCommit(t, "two versions", s, x, stamp)
			}
		}
	}
	// An overwritten version of another key leaves room up to its Successor, which becomes the one of what is overwritten.
	s := storeOfText(t, "1:5@2,3,4 2:6@4,4,inf", "3:7@1,2,8 4:8@8,8,inf")
	store, y, ok := checkCommit(t, "two keys", s, openTransaction([]impl.ReadMark{{Key: 1, Created: 1}}, 0), 9)
	if want := []string{"1:5@2,3,4 2:6@4,4,8 2:0@9,9,inf", "3:7@1,9,8 4:8@8,8,inf"}; !ok || !slices.Equal(keyTexts(store)[:2], want) || y.Low != 4 || y.High != 8 {
		t.Errorf("an overwritten version of another key is read: %v, %v, %t, want %v", keyTexts(store), y, ok, want)
	}
}

// A commit of many keys at once: read, overwritten, both, and neither of them.
func TestCommitOfManyKeys(t *testing.T) {
	x := openTransaction([]impl.ReadMark{{Key: 0}, {Key: 1, Created: 8}, {Key: 4, Created: 8}}, 1, 3, 5)
	s := windowStore()
	// The read of key 0 ends the window at 3, below what the writes demand.
	if _, _, ok := checkCommit(t, "without room", s, x, 13); ok {
		t.Error("a transaction without room commits")
	}
	x.Reads[0] = impl.ReadMark{Key: 0, Created: 3}
	x.Writes[1].Value = -1
	x.Low = 7
	store, y, ok := checkCommit(t, "with room", s, x, 20)
	want := []string{
		"0:-@0,2,3 1:10@3,20,inf", "0:-@0,1,5 2:11@8,20,20 2:9@20,20,inf", "0:-@0,2,3 2:12@8,12,inf",
		"0:-@0,12,20 2:-@20,20,inf", "0:-@0,3,4 3:13@6,6,8 2:14@8,20,inf", "0:-@0,0,3 4:15@12,12,20 2:45@20,20,inf",
	}
	if !ok || !slices.Equal(keyTexts(store), want) {
		t.Errorf("after the commit: %q, %t, want %q", keyTexts(store), ok, want)
	}
	wantTransaction := cloneTransaction(x)
	wantTransaction.Low, wantTransaction.High, wantTransaction.State, wantTransaction.Commit = 12, 20, impl.StateCommitted, 20
	if !sameTransaction(y, wantTransaction) {
		t.Errorf("after the commit: %v, want %v", y, wantTransaction)
	}
	installed := []impl.Version{version(2, 9, 20, 20, 1000), version(2, -1, 20, 20, 1000), version(2, 45, 20, 20, 1000)}
	if got := impl.InstalledVersions(store, y); !slices.Equal(got, installed) {
		t.Errorf("InstalledVersions = %v, want %v", got, installed)
	}
}

func TestCommittedTransaction(t *testing.T) {
	cases := []struct {
		name              string
		low, high, stamp  int
		reads             []impl.ReadMark
		writes            []int
		wantLow, wantHigh int
	}{
		{"no reads and no writes", 0, 1000, 13, nil, nil, 0, 13},
		{"no reads and no writes, ends of its own", 6, 20, 30, nil, nil, 6, 20},
		{"the least window", 998, 1000, 999, nil, nil, 998, 999},
		{"High is 1", 0, 1, 999, nil, nil, 0, 1},
		{"the last stamp", 0, 1000, 999, nil, []int{0, 1, 2, 3, 4, 5}, 12, 999},
		{"writes of all keys", 0, 1000, 13, nil, []int{0, 1, 2, 3, 4, 5}, 12, 13},
		{"reads and writes of all keys", 0, 1000, 13, []impl.ReadMark{{Key: 0, Created: 3}, {Key: 1, Created: 8}, {Key: 2, Created: 8}, {Key: 3}, {Key: 4, Created: 8}, {Key: 5, Created: 12}}, []int{0, 1, 2, 3, 4, 5}, 12, 13},
		{"Low of the transaction", 13, 1000, 14, nil, []int{3}, 13, 14},
		{"High of the transaction", 0, 13, 999, nil, []int{3}, 12, 13},
		{"Low by a read", 0, 1000, 900, []impl.ReadMark{{Key: 5, Created: 12}}, []int{0}, 12, 900},
		{"Low by a write", 0, 1000, 900, []impl.ReadMark{{Key: 0, Created: 3}}, []int{1}, 9, 900},
		{"High by a read", 0, 1000, 900, []impl.ReadMark{{Key: 1}}, []int{0}, 4, 5},
	}
	for _, c := range cases {
		for scheme := impl.SchemeCommitted; scheme <= impl.SchemeOrdered; scheme++ {
			for _, id := range []int{1, 5, 9} {
				// Begin does not count, not even if it is after the stamp.
				for _, begin := range []int{0, 12, 999} {
					x := openTransaction(c.reads, c.writes...)
					x.ID, x.Scheme, x.Begin, x.Low, x.High = id, scheme, begin, c.low, c.high
					_, y, ok := checkCommit(t, c.name, windowStore(), x, c.stamp)
					want := impl.Transaction{ID: id, Scheme: scheme, State: 2, Begin: begin, Low: c.wantLow, High: c.wantHigh, Commit: c.stamp, Reads: x.Reads, Writes: x.Writes}
					if !ok || !sameTransaction(y, want) {
						t.Errorf("%s: %v, %t, want %v", c.name, y, ok, want)
					}
					if impl.CommittedStamp(y) != c.stamp || impl.CommittedStamp(x) != 0 {
						t.Errorf("%s: CommittedStamp is %d after and %d before the commit", c.name, impl.CommittedStamp(y), impl.CommittedStamp(x))
					}
				}
			}
		}
	}
}

// commitStep is one transaction of a sequence: it reads the latest versions of some keys, writes others and commits.
type commitStep struct {
	id     int
	stamp  int
	reads  []int
	writes []impl.Write
}

func TestCommitsOneAfterTheOther(t *testing.T) {
	w := func(key, value int) impl.Write { return impl.Write{Key: key, Value: value} }
	steps := []commitStep{
		{1, 1, []int{1}, []impl.Write{w(0, 5)}},
		{2, 2, []int{0}, []impl.Write{w(0, 6), w(1, 7)}},
		{3, 3, []int{0, 1, 2}, nil},
		{4, 5, nil, []impl.Write{w(2, -1)}},
		{1, 6, []int{2, 3}, []impl.Write{w(2, 8), w(3, 99), w(4, 0)}},
		{5, 7, nil, nil},
		{9, 10, []int{0, 1, 2, 3, 4, 5}, []impl.Write{w(1, -1)}},
		{2, 999, []int{1}, []impl.Write{w(0, 1)}},
	}
	s := impl.NewStore()
	for _, step := range steps {
		x, _ := impl.NewTransaction(step.id, impl.SchemeCommitted, 0)
		for _, key := range step.reads {
			x = checkTracked(t, x, key, latestIn(s, key))
		}
		for _, write := range step.writes {
			x = checkWritten(t, s, x, write.Key, write.Value)
		}
		after, _, ok := checkCommit(t, "one after the other", s, x, step.stamp)
		if !ok {
			t.Fatalf("%v does not commit", step)
		}
		s = after
	}
	want := []string{
		"0:-@0,0,1 1:5@1,2,2 2:6@2,10,999 2:1@999,999,inf", "0:-@0,1,2 2:7@2,10,10 9:-@10,999,inf", "0:-@0,3,5 4:-@5,6,6 1:8@6,10,inf",
		"0:-@0,6,6 1:99@6,10,inf", "0:-@0,0,6 1:0@6,10,inf", "0:-@0,10,inf",
	}
	if got := keyTexts(s); !slices.Equal(got, want) {
		t.Errorf("after all commits: %q, want %q", got, want)
	}
	if got := impl.FormatState(impl.StateAt(s, 999)); got != "1 - 8 99 0 -" {
		t.Errorf("the state is %q", got)
	}
}

// storeOfCommits returns the store that the committed transactions, in the order of their stamps, define.
func storeOfCommits(commits []impl.Transaction) impl.Store {
	s := chainsOf(initialChain(0), initialChain(0), initialChain(0), initialChain(0), initialChain(0), initialChain(0))
	for key := range s.Chains {
		for _, x := range commits {
			if value, ok := valueWritten(x, key); ok {
				s.Chains[key] = append(s.Chains[key], version(x.ID, value, x.Commit, x.Commit, 1000))
			}
		}
		for i := range s.Chains[key] {
			v := &s.Chains[key][i]
			v.Reader, v.Successor = lastReader(commits, impl.ReadMark{Key: key, Created: v.Created}), nextHigh(commits, key, v.Created)
		}
	}
	return s
}

func valueWritten(x impl.Transaction, key int) (int, bool) {
	for _, w := range x.Writes {
		if w.Key == key {
			return w.Value, true
		}
	}
	return 0, false
}

// lastReader returns the last commit that read or created the version.
func lastReader(commits []impl.Transaction, m impl.ReadMark) int {
	last := m.Created
	for _, x := range commits {
		if slices.Contains(x.Reads, m) {
			last = max(last, x.Commit)
		}
	}
	return last
}

// nextHigh returns the high end of the first transaction after the stamp that wrote the key.
func nextHigh(commits []impl.Transaction, key, created int) int {
	for _, x := range commits {
		if _, ok := valueWritten(x, key); ok && x.Commit > created {
			return x.High
		}
	}
	return 1000
}

// run lets transactions of all IDs read, write, commit and abort in any order.
type run struct {
	t       *testing.T
	random  *rand.Rand
	store   impl.Store
	active  map[int]impl.Transaction
	commits []impl.Transaction
	aborted []impl.Transaction
	stamp   int
	refused int
}

func TestCommitsInAnyOrder(t *testing.T) {
	commits, aborted, refused, full := 0, 0, 0, 0
	for seed := range 60 {
		r := &run{t: t, random: rand.New(rand.NewSource(int64(seed))), store: impl.NewStore(), active: map[int]impl.Transaction{}}
		for range 200 + 60*seed {
			r.step(1 + r.random.Intn(9))
		}
		r.check()
		commits, aborted, refused = commits+len(r.commits), aborted+len(r.aborted), refused+r.refused
		for _, l := range r.store.Chains {
			if len(l) == 50 {
				full++
			}
		}
	}
	if commits < 1000 || aborted < 1000 || refused < 1000 || full == 0 {
		t.Errorf("%d commits, %d aborted, %d refused, %d full chains", commits, aborted, refused, full)
	}
}

func (r *run) step(id int) {
	x, ok := r.active[id]
	switch action := r.random.Intn(12); {
	case !ok:
		r.active[id], _ = impl.NewTransaction(id, 1+r.random.Intn(4), r.stamp)
	case action < 5:
		key := r.random.Intn(6)
		l := r.store.Chains[key]
		v := l[len(l)-1]
		if action == 0 {
			v = l[max(0, len(l)-1-r.random.Intn(3))]
		}
		if len(x.Reads) < 60 {
			r.active[id] = checkTracked(r.t, x, key, v)
		}
	case action < 8:
		r.active[id] = checkWritten(r.t, r.store, x, r.random.Intn(6), r.random.Intn(101)-1)
	case action < 11:
		r.commit(x)
	default:
		r.abort(x)
	}
}

func (r *run) commit(x impl.Transaction) {
	stamp := r.stamp + 1 + r.random.Intn(2)
	store, y, ok := checkCommit(r.t, "any order", r.store, x, stamp)
	if !ok {
		r.refused++
		r.abort(x)
		return
	}
	r.store, r.stamp, r.commits = store, stamp, append(r.commits, y)
	delete(r.active, x.ID)
}

func (r *run) abort(x impl.Transaction) {
	y := checkAborted(r.t, x)
	checkNoCommit(r.t, "aborted", r.store, y, r.stamp+1)
	r.aborted = append(r.aborted, y)
	delete(r.active, x.ID)
}

// check compares the store with the one that the committed transactions define: the aborted ones and the active ones leave no trace.
func (r *run) check() {
	r.t.Helper()
	if want := storeOfCommits(r.commits); !impl.EqualStores(r.store, want) {
		r.t.Errorf("after %d commits: %v, want %v", len(r.commits), r.store, want)
	}
	for _, x := range r.commits {
		if got := impl.InstalledVersions(r.store, x); len(got) != len(x.Writes) {
			r.t.Errorf("InstalledVersions of %v in %v: %v", x, r.store, got)
		}
	}
	for _, x := range r.aborted {
		if got := impl.InstalledVersions(r.store, x); len(got) != 0 {
			r.t.Errorf("InstalledVersions of %v in %v: %v", x, r.store, got)
		}
	}
}

// Of two transactions with the same operations one commits and the other one is aborted, in either order.
func TestAbortedTransactionLeavesNoTrace(t *testing.T) {
	for _, first := range []int{1, 2} {
		s := impl.NewStore()
		for n, id := range []int{first, 3 - first} {
			x, _ := impl.NewTransaction(id, impl.SchemeOptimistic, 0)
			for key := range impl.MaxKeys {
				x = checkTracked(t, x, key, latestIn(s, key))
				x = checkWritten(t, s, x, key, 10*id+key)
			}
			if id == 2 {
				y := checkAborted(t, x)
				checkNoCommit(t, "aborted", s, y, n+1)
				if got := impl.InstalledVersions(s, y); len(got) != 0 {
					t.Errorf("InstalledVersions(%v, %v) = %v", s, y, got)
				}
				continue
			}
			s, _, _ = checkCommit(t, "beside an aborted one", s, x, n+1)
		}
		for key, l := range s.Chains {
			if len(l) != 2 || l[1].Writer != 1 || l[1].Value != 10+key || l[0].Reader != l[1].Created || l[1].Successor != 1000 {
				t.Errorf("transaction %d first: the chain of key %d is %v", first, key, l)
			}
		}
	}
}

func TestNoCommitInInvalidStores(t *testing.T) {
	for _, s := range invalidStores() {
		for _, x := range append(activeReaders(), openTransaction(nil), openTransaction(nil, 0, 5), openTransaction([]impl.ReadMark{{Key: 0}}, 0), impl.Transaction{}, fullTransaction()) {
			for _, stamp := range []int{0, 1, 13, 700, 999, 1000} {
				checkNoCommit(t, "invalid store", s, x, stamp)
			}
		}
	}
}

func TestNoCommitOfInvalidTransactions(t *testing.T) {
	for _, s := range []impl.Store{windowStore(), impl.NewStore(), {}} {
		for _, x := range invalidTransactions() {
			for _, stamp := range []int{0, 13, 999} {
				checkNoCommit(t, "invalid transaction", s, x, stamp)
			}
		}
	}
}

func TestNoCommitOfEndedTransactions(t *testing.T) {
	for _, s := range windowStores() {
		for _, base := range roomyTransactions(s)[:12] {
			states := inEveryState(base)
			for _, stamp := range freeStamps(s) {
				if _, y, ok := checkCommit(t, "active", s, states[0], stamp); ok {
					checkNoCommit(t, "committed before", s, y, stamp)
				}
				checkNoCommit(t, "committed", s, states[1], stamp)
				checkNoCommit(t, "aborted", s, states[2], stamp)
			}
		}
	}
	// Nor does it commit for a second time in the store that the first commit has made.
	store, y, _ := checkCommit(t, "first", impl.NewStore(), openTransaction([]impl.ReadMark{{Key: 2}}, 0, 5), 1)
	checkNoCommit(t, "second", store, y, 1)
	checkNoCommit(t, "second", store, y, 2)
	checkNoCommit(t, "second", store, y, 999)
}

func TestNoCommitIfAReadDoesNotExist(t *testing.T) {
	s := readStore()
	existing := []impl.ReadMark{{Key: 0, Created: 4}, {Key: 1, Created: 7}, {Key: 2}, {Key: 3, Created: 3}, {Key: 4, Created: 9}, {Key: 5, Created: 1}}
	for _, missing := range missingMarks() {
		for n := range len(existing) + 1 {
			for _, writes := range [][]int{nil, {3}, {0, 1, 2, 3, 4, 5}} {
				x := openTransaction(existing[:n], writes...)
				if _, _, ok := checkCommit(t, "all reads exist", s, x, 10); !ok {
					t.Errorf("%v does not commit", x)
				}
				x.Reads = trackedReads(x.Reads, missing)
				checkNoCommit(t, "a read does not exist", s, x, 10)
			}
		}
	}
}

func TestCommitAtTheLimitsOfStamps(t *testing.T) {
	stamps := append([]int{math.MinInt, -1000, -1, 0, 1, 2, 998, 999, 1000, 1001, math.MaxInt}, farInts...)
	for _, s := range windowStores() {
		last := greatestStamp(s)
		for _, x := range []impl.Transaction{openTransaction(nil), openTransaction(nil, 0), openTransaction([]impl.ReadMark{{Key: 5, Created: latestIn(s, 5).Created}}, 5)} {
			for _, stamp := range append(stamps, last-1, last, last+1, last+2) {
				_, _, ok := checkCommit(t, "stamp", s, x, stamp)
				if want := stamp > last && stamp <= 999 && hasRoomForVersions(s, x); ok != want {
					t.Errorf("the commit of %v with the stamp %d after %d: %t", x, stamp, last, ok)
				}
				if !ok {
					checkNoCommit(t, "stamp", s, x, stamp)
				}
			}
		}
	}
	// Also a stamp that was only read, of an older version, is used.
	s := windowStore()
	s.Chains[0][0].Reader = 500
	checkNoCommit(t, "the last stamp is the Reader of an older version", s, openTransaction(nil, 2), 500)
	if _, _, ok := checkCommit(t, "the next stamp", s, openTransaction(nil, 2), 501); !ok {
		t.Error("the stamp after the last one does not commit")
	}
	for _, last := range []int{998, 999} {
		s.Chains[3][0].Reader = last
		_, _, ok := checkCommit(t, "the last stamp", s, openTransaction(nil, 2), 999)
		if ok != (last == 998) {
			t.Errorf("the commit with the stamp 999 after %d: %t", last, ok)
		}
	}
}

func TestCommitWithAndWithoutRoom(t *testing.T) {
	results := map[bool]int{}
	for _, low := range []int{1, 2, 13, 500, 998} {
		for _, apart := range []int{-1, 0, 1} {
			high := low + apart
			for _, sets := range []string{"Low", "a read", "a write"} {
				for _, setsHigh := range []string{"High", "a read", "the stamp"} {
					s, x, stamp := equalEnds(sets, setsHigh, low, high)
					if high < 1 || stamp <= greatestStamp(s) {
						continue
					}
					_, _, ok := checkCommit(t, sets+" and "+setsHigh, s, x, stamp)
					if ok != (apart == 1) {
						t.Errorf("%s is %d and %s is %d: %t", sets, low, setsHigh, high, ok)
					}
					if !ok {
						checkNoCommit(t, sets+" and "+setsHigh, s, x, stamp)
					}
					results[ok]++
				}
			}
		}
	}
	if results[true] < 10 || results[false] < 20 {
		t.Errorf("the numbers of results are %v", results)
	}
}

func TestCommitWithFullChains(t *testing.T) {
	for _, n := range []int{1, 2, 48, 49, 50, 51} {
		for full := range impl.MaxKeys {
			s := impl.NewStore()
			s.Chains[full] = longChain(n)
			for set := range 1 << impl.MaxKeys {
				var reads []impl.ReadMark
				x := openTransaction(nil)
				for key := range impl.MaxKeys {
					if set>>key&1 == 1 {
						x.Writes = append(x.Writes, impl.Write{Key: key, Value: key})
					}
					reads = append(reads, impl.ReadMark{Key: key, Created: s.Chains[key][len(s.Chains[key])-1].Created})
				}
				for _, x.Reads = range [][]impl.ReadMark{nil, reads} {
					if n == 51 {
						checkNoCommit(t, "51 versions", s, x, 100)
						continue
					}
					_, _, ok := checkCommit(t, "long chain", s, x, 100)
					if want := n < 50 || set>>full&1 == 0; ok != want {
						t.Errorf("with %d versions of key %d the commit of %v: %t", n, full, x, ok)
					}
					if !ok {
						checkNoCommit(t, "long chain", s, x, 100)
					}
				}
			}
		}
	}
}

func TestCommitUntilAChainIsFull(t *testing.T) {
	s := impl.NewStore()
	for stamp := 1; stamp <= 49; stamp++ {
		store, _, ok := checkCommit(t, "next version", s, openTransaction(nil, 2), stamp)
		if !ok || len(store.Chains[2]) != stamp+1 {
			t.Fatalf("commit %d: %t, %v", stamp, ok, store)
		}
		s = store
	}
	checkNoCommit(t, "51st version", s, openTransaction(nil, 2), 50)
	checkNoCommit(t, "51st version and others", s, openTransaction([]impl.ReadMark{{Key: 0}, {Key: 2, Created: 49}}, 0, 1, 2, 3), 50)
	if _, _, ok := checkCommit(t, "other keys", s, openTransaction([]impl.ReadMark{{Key: 0}, {Key: 2, Created: 49}}, 0, 1, 3), 50); !ok {
		t.Error("a full chain whose key is not written refuses the commit")
	}
}

// checkAborted aborts and compares every field with the promise.
func checkAborted(t *testing.T, x impl.Transaction) impl.Transaction {
	t.Helper()
	part, whole := withSpare(x)
	before := cloneTransaction(whole)
	got, ok := impl.AbortTransaction(part)
	want := cloneTransaction(x)
	want.State = 3
	if !ok || !sameTransaction(got, want) || !impl.IsValidTransaction(got) {
		t.Errorf("AbortTransaction(%v) = %v, %t", x, got, ok)
	}
	if impl.CommittedStamp(got) != 0 {
		t.Errorf("CommittedStamp(%v) = %d", got, impl.CommittedStamp(got))
	}
	checkNoAbort(t, "aborted twice", got)
	if !sameTransaction(whole, before) {
		t.Errorf("AbortTransaction changes its argument, or what is behind its lists: %v to %v", before, whole)
	}
	spoiled, _ := impl.AbortTransaction(part)
	checkOwnMemory(t, "AbortTransaction", whole, spoiled)
	return got
}

func checkNoAbort(t *testing.T, what string, x impl.Transaction) {
	t.Helper()
	part, whole := withSpare(x)
	before := cloneTransaction(whole)
	got, ok := impl.AbortTransaction(part)
	if ok || !sameTransaction(got, x) {
		t.Errorf("%s: AbortTransaction(%v) = %v, %t", what, x, got, ok)
	}
	if !sameTransaction(whole, before) {
		t.Errorf("%s: AbortTransaction changes its argument, or what is behind its lists: %v to %v", what, before, whole)
	}
	checkOwnMemory(t, what, whole, got)
}

func TestAbortTransaction(t *testing.T) {
	for _, base := range append(activeReaders(), fullTransaction(), openTransaction(nil), readerOf(readsOf(2, 60)...), writerOf(impl.Write{Key: 0, Value: -1})) {
		for _, ends := range [][2]int{{0, 1000}, {6, 20}, {20, 6}, {999, 1}} {
			for scheme := impl.SchemeCommitted; scheme <= impl.SchemeOrdered; scheme++ {
				base.Scheme, base.Low, base.High = scheme, ends[0], ends[1]
				states := inEveryState(base)
				checkAborted(t, states[0])
				checkNoAbort(t, "committed", states[1])
				checkNoAbort(t, "aborted", states[2])
			}
		}
	}
}

func TestNoAbortOfInvalidTransactions(t *testing.T) {
	for _, x := range invalidTransactions() {
		checkNoAbort(t, "invalid transaction", x)
	}
	for _, change := range fieldChanges() {
		for _, n := range []int{-1, 0, 1, 9, 10, 999, 1000, 1001} {
			x := activeTransaction()
			change.set(&x, n)
			if !impl.IsValidTransaction(x) {
				checkNoAbort(t, change.name, x)
			} else if x.State == impl.StateActive {
				checkAborted(t, x)
			}
		}
	}
}

func TestCommittedStamp(t *testing.T) {
	for _, base := range append(activeReaders(), fullTransaction()) {
		states := inEveryState(base)
		for stamp := -1; stamp <= 1001; stamp++ {
			x := states[1]
			x.Commit = stamp
			want := 0
			if stamp >= 1 && stamp <= 999 {
				want = stamp
			}
			if got := impl.CommittedStamp(x); got != want {
				t.Errorf("CommittedStamp(%v) = %d, want %d", x, got, want)
			}
			// Active and aborted transactions have none, and those with Commit are not valid.
			for _, y := range []impl.Transaction{states[0], states[2]} {
				y.Commit = stamp
				if got := impl.CommittedStamp(y); got != 0 {
					t.Errorf("CommittedStamp(%v) = %d", y, got)
				}
			}
		}
	}
}

// committedInvalid returns transactions with StateCommitted and the stamp 20 in each of which one other thing is wrong.
func committedInvalid() []impl.Transaction {
	var l []impl.Transaction
	for _, x := range invalidTransactions() {
		if x.State == impl.StateActive {
			x.State, x.Commit = impl.StateCommitted, 20
		}
		l = append(l, x)
	}
	return slices.DeleteFunc(l, impl.IsValidTransaction)
}

func TestCommittedStampOfInvalidTransactions(t *testing.T) {
	for _, x := range append(committedInvalid(), invalidTransactions()...) {
		if got := impl.CommittedStamp(x); got != 0 {
			t.Errorf("CommittedStamp(%v) = %d", x, got)
		}
	}
	for _, n := range append([]int{-1, 0, 1000, 1001}, farInts...) {
		x := fullTransaction()
		x.Commit = n
		if got := impl.CommittedStamp(x); got != 0 {
			t.Errorf("CommittedStamp(%v) = %d", x, got)
		}
	}
}

// installedStore contains versions of the writers 2 and 3, some of them with the stamp 20.
func installedStore() impl.Store {
	return chainsOf(
		[]impl.Version{version(0, -1, 0, 3, 20), version(3, 10, 20, 24, 25), version(2, 11, 25, 25, 1000)},
		[]impl.Version{version(3, 12, 20, 20, 1000)},
		[]impl.Version{version(0, -1, 0, 3, 20), version(2, 13, 20, 20, 1000)},
		[]impl.Version{version(0, -1, 0, 3, 7), version(3, 14, 7, 7, 19), version(3, 15, 19, 20, 21), version(3, 16, 21, 21, 1000)},
		initialChain(20),
		[]impl.Version{version(0, -1, 0, 3, 20), version(3, -1, 20, 30, 1000)},
	)
}

func TestInstalledVersions(t *testing.T) {
	s := installedStore()
	if !impl.IsValidStore(s) {
		t.Fatal("not valid:", s)
	}
	cases := []struct {
		name   string
		id     int
		stamp  int
		writes []impl.Write
		want   []impl.Version
	}{
		{"several writes", 3, 20, []impl.Write{{Key: 0, Value: 10}, {Key: 1, Value: 12}, {Key: 5, Value: -1}}, []impl.Version{version(3, 10, 20, 24, 25), version(3, 12, 20, 20, 1000), version(3, -1, 20, 30, 1000)}},
		{"what the store contains counts, not the writes", 3, 20, nil, []impl.Version{version(3, 10, 20, 24, 25), version(3, 12, 20, 20, 1000), version(3, -1, 20, 30, 1000)}},
		{"another writer with the same stamp", 2, 20, []impl.Write{{Key: 2, Value: 13}}, []impl.Version{version(2, 13, 20, 20, 1000)}},
		{"only another writer has this stamp", 4, 20, []impl.Write{{Key: 0, Value: 10}, {Key: 2, Value: 13}}, nil},
		{"another stamp of the writer", 3, 7, []impl.Write{{Key: 3, Value: 14}}, []impl.Version{version(3, 14, 7, 7, 19)}},
		{"an overwritten version", 3, 19, []impl.Write{{Key: 3, Value: 15}}, []impl.Version{version(3, 15, 19, 20, 21)}},
		{"the latest version", 3, 21, []impl.Write{{Key: 3, Value: 16}}, []impl.Version{version(3, 16, 21, 21, 1000)}},
		{"a stamp that only another writer used", 3, 25, []impl.Write{{Key: 0, Value: 11}}, nil},
		{"a stamp that is only a Reader", 3, 24, []impl.Write{{Key: 0, Value: 11}}, nil},
		{"a stamp that nobody used", 3, 22, []impl.Write{{Key: 0, Value: 10}, {Key: 3, Value: 16}}, nil},
		{"no writes and no versions", 3, 999, nil, nil},
	}
	for _, c := range cases {
		x := openTransaction(nil)
		x.ID, x.Writes = c.id, c.writes
		states := inEveryState(x)
		states[1].Commit = c.stamp
		if got := impl.InstalledVersions(s, states[1]); !slices.Equal(got, c.want) {
			t.Errorf("%s: InstalledVersions(%v) = %v, want %v", c.name, states[1], got, c.want)
		}
		for _, y := range []impl.Transaction{states[0], states[2], {}} {
			if got := impl.InstalledVersions(s, y); len(got) != 0 {
				t.Errorf("%s: InstalledVersions(%v) = %v", c.name, y, got)
			}
		}
		if got := impl.InstalledVersions(impl.NewStore(), states[1]); len(got) != 0 {
			t.Errorf("%s: in a new store InstalledVersions(%v) = %v", c.name, states[1], got)
		}
	}
}

func TestInstalledVersionsOfInvalidArguments(t *testing.T) {
	x := openTransaction(nil)
	x.ID, x.State, x.Commit = 3, impl.StateCommitted, 20
	if got := impl.InstalledVersions(installedStore(), x); len(got) != 3 {
		t.Fatal("InstalledVersions:", got)
	}
	for i := range impl.MaxKeys {
		for _, v := range invalidVersions() {
			s := installedStore()
			s.Chains[i] = append([]impl.Version{v}, s.Chains[i]...)
			if got := impl.InstalledVersions(s, x); len(got) != 0 {
				t.Errorf("InstalledVersions(%v, %v) = %v", s, x, got)
			}
		}
		for _, l := range invalidChains() {
			s := installedStore()
			s.Chains[i] = l
			if got := impl.InstalledVersions(s, x); len(got) != 0 {
				t.Errorf("InstalledVersions(%v, %v) = %v", s, x, got)
			}
		}
	}
	for _, s := range append(invalidStores(), impl.Store{Chains: installedStore().Chains[:5]}, impl.Store{Chains: append(installedStore().Chains, initialChain(0))}) {
		for _, stamp := range []int{1, 3, 13, 20} {
			for id := 1; id <= 9; id++ {
				x.ID, x.Commit = id, stamp
				if got := impl.InstalledVersions(s, x); len(got) != 0 {
					t.Errorf("InstalledVersions(%v, %v) = %v", s, x, got)
				}
			}
		}
	}
	for _, y := range append(committedInvalid(), invalidTransactions()...) {
		if got := impl.InstalledVersions(installedStore(), y); len(got) != 0 {
			t.Errorf("InstalledVersions of %v: %v", y, got)
		}
	}
}

func TestInstalledVersionsAreNewMemory(t *testing.T) {
	for _, whole := range []impl.Store{installedStore(), impl.NewStore()} {
		s, stays := storeWithSpare(whole)
		for id := 1; id <= 4; id++ {
			x := openTransaction([]impl.ReadMark{{Key: 0}}, 0, 1)
			x.ID, x.State, x.Commit = id, impl.StateCommitted, 20
			part, longer := withSpare(x)
			before := cloneTransaction(longer)
			got, other := impl.InstalledVersions(s, part), impl.InstalledVersions(s, part)
			want := slices.Clone(other)
			for i := range got[:cap(got)] {
				got[:cap(got)][i] = version(-7, -7, -7, -7, -7)
			}
			if !stays() || !sameTransaction(longer, before) || !slices.Equal(other, want) {
				t.Errorf("writing into InstalledVersions of %v changes an argument or another result: %v, %v", x, s, other)
			}
		}
	}
}

func TestCommitResultsAreNewMemory(t *testing.T) {
	for _, whole := range windowStores() {
		s, stays := storeWithSpare(whole)
		last := greatestStamp(whole)
		for _, x := range append(roomyTransactions(whole), activeReaders()...) {
			part, longer := withSpare(x)
			before := cloneTransaction(longer)
			for _, stamp := range []int{last, last + 1, 999} {
				store, y, ok := impl.CommitTransaction(s, part, stamp)
				other, z, _ := impl.CommitTransaction(s, part, stamp)
				wantStore, want, wantOK := expectedCommit(whole, x, stamp)
				if ok != wantOK {
					t.Fatalf("the commit of %v with the stamp %d: %t", x, stamp, ok)
				}
				overwriteResults(t, "commit", store, y)
				if !stays() || !sameTransaction(longer, before) || !sameTransaction(part, x) {
					t.Fatalf("the commit of %v, or writing into its results, changes its arguments to %v and %v", x, s, longer)
				}
				if !impl.EqualStores(other, wantStore) || !sameTransaction(z, want) {
					t.Fatalf("two results of the commit of %v share memory", x)
				}
			}
		}
	}
}

// All chains of the store are in one memory, so that what is appended to one must not appear in another.
func TestCommitInAStoreWhoseChainsShareMemory(t *testing.T) {
	shared := append(make([]impl.Version, 0, 9), initialChain(0)...)
	s := impl.Store{Chains: [][]impl.Version{shared, shared, shared, shared, shared, shared}}
	for set := range 1 << impl.MaxKeys {
		x := openTransaction([]impl.ReadMark{{Key: set % 6}})
		for key := range impl.MaxKeys {
			if set>>key&1 == 1 {
				x.Writes = append(x.Writes, impl.Write{Key: key, Value: 7 * key})
			}
		}
		store, y, ok := checkCommit(t, "shared chains", s, x, 1)
		if !ok || shared[:2][1] != (impl.Version{}) {
			t.Fatalf("the commit of %v: %t, behind the chain is %v", x, ok, shared[:2])
		}
		overwriteResults(t, "shared chains", store, y)
		refused, y, _ := checkCommit(t, "shared chains", s, x, 0)
		overwriteResults(t, "shared chains", refused, y)
		if !slices.Equal(shared, initialChain(0)) {
			t.Fatalf("the commit of %v changes the chains to %v", x, shared)
		}
	}
}
