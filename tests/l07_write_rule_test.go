package tests

import (
	"math/rand"
	"slices"
	"testing"

	"loop.example/g01924/impl"
)

// latestReaders are the Readers of the latest versions of writeStore.
var latestReaders = [impl.MaxKeys]int{0, 9, 7, 998, 12, 30}

// writeStore returns a store with chains of one to three versions, in some of which an older version has a greater Reader than the latest one.
func writeStore() impl.Store {
	return chainsOf(
		initialChain(0),
		[]impl.Version{version(0, -1, 0, 900, 2), version(1, 5, 4, 9, 1000)},
		[]impl.Version{version(2, 99, 3, 3, 5), version(3, -1, 6, 800, 6), version(4, 0, 7, 7, 1000)},
		initialChain(998),
		[]impl.Version{version(0, -1, 0, 1, 1), version(5, 50, 2, 12, 1000)},
		[]impl.Version{version(6, 13, 20, 25, 25), version(7, 14, 26, 26, 28), version(8, 15, 28, 30, 1000)},
	)
}

// writeStores returns valid stores with chains of every kind.
func writeStores() []impl.Store {
	stores := []impl.Store{writeStore(), readStore()}
	for _, s := range validStores() {
		stores = append(stores, s)
	}
	return stores
}

// latestIn finds the latest version by the definition: the one with the greatest Created.
func latestIn(s impl.Store, key int) impl.Version {
	v, _ := visibleVersion(s.Chains[key], impl.MaxStamp)
	return v
}

func writerOf(writes ...impl.Write) impl.Transaction {
	t := activeTransaction()
	t.Writes = slices.Clone(writes)
	return t
}

// trackedWrites sets the write by the definition: the writes contain the key once, with this value, and are in order.
func trackedWrites(writes []impl.Write, w impl.Write) []impl.Write {
	values := map[int]int{}
	for _, other := range writes {
		values[other.Key] = other.Value
	}
	values[w.Key] = w.Value
	return writesInOrder(values)
}

func writesInOrder(values map[int]int) []impl.Write {
	var l []impl.Write
	for key := range impl.MaxKeys {
		if value, ok := values[key]; ok {
			l = append(l, impl.Write{Key: key, Value: value})
		}
	}
	return l
}

// checkWritten tracks the write and compares every field with the promise.
func checkWritten(t *testing.T, s impl.Store, x impl.Transaction, key, value int) impl.Transaction {
	t.Helper()
	want := cloneTransaction(x)
	want.Writes = trackedWrites(x.Writes, impl.Write{Key: key, Value: value})
	if reader := latestIn(s, key).Reader; reader > x.Low {
		want.Low = reader
	}
	before, storeBefore := cloneTransaction(x), cloneStore(s)
	got, ok := impl.TrackWrite(s, x, key, value)
	if !ok || !sameTransaction(got, want) {
		t.Errorf("TrackWrite(%v, %v, %d, %d) = %v, %t, want %v", s, x, key, value, got, ok, want)
	}
	if !impl.IsValidTransaction(got) {
		t.Errorf("TrackWrite(%v, %v, %d, %d) is not valid: %v", s, x, key, value, got)
	}
	if !sameTransaction(x, before) || !impl.EqualStores(s, storeBefore) {
		t.Errorf("TrackWrite changes its arguments %v and %v to %v and %v", storeBefore, before, s, x)
	}
	return got
}

func checkWriteRefused(t *testing.T, what string, s impl.Store, x impl.Transaction, key, value int) {
	t.Helper()
	part, whole := withSpare(x)
	before := cloneTransaction(whole)
	got, ok := impl.TrackWrite(s, part, key, value)
	if ok || !sameTransaction(got, x) {
		t.Errorf("%s: TrackWrite(%v, %v, %d, %d) = %v, %t", what, s, x, key, value, got, ok)
	}
	if !sameTransaction(whole, before) {
		t.Errorf("%s: TrackWrite changes its argument, or what is behind its lists: %v to %v", what, before, whole)
	}
	checkOwnMemory(t, what, whole, got)
}

func TestTrackWriteOfEveryKey(t *testing.T) {
	for _, s := range writeStores() {
		for _, x := range activeReaders() {
			for key := range impl.MaxKeys {
				for _, value := range []int{impl.Absent, 0, 1, 50, 98, impl.MaxValue} {
					checkWritten(t, s, x, key, value)
				}
			}
		}
	}
}

func TestTrackWriteOfEveryValue(t *testing.T) {
	for value := impl.Absent; value <= impl.MaxValue; value++ {
		x := checkWritten(t, writeStore(), activeTransaction(), value%3+1, value)
		if len(x.Writes) != 1 || x.Writes[0] != (impl.Write{Key: value%3 + 1, Value: value}) {
			t.Errorf("after a write of %d the writes are %v", value, x.Writes)
		}
	}
}

func TestTrackWriteOfEveryScheme(t *testing.T) {
	for scheme := impl.SchemeCommitted; scheme <= impl.SchemeOrdered; scheme++ {
		for _, begin := range []int{0, 3, 999} {
			for id := 1; id <= impl.MaxTransactionID; id++ {
				x, _ := impl.NewTransaction(id, scheme, begin)
				y := checkWritten(t, writeStore(), x, 4, 8)
				want := impl.Transaction{ID: id, Scheme: scheme, State: impl.StateActive, Begin: begin, Low: 12, High: impl.Infinity, Writes: []impl.Write{{Key: 4, Value: 8}}}
				if !sameTransaction(y, want) {
					t.Errorf("after a write of key 4 whose latest version was read by 12: %v, want %v", y, want)
				}
			}
		}
	}
}

func TestWindowAfterAWrite(t *testing.T) {
	cases := []struct {
		name                       string
		low, high, reader, wantLow int
	}{
		{"Low moves", 6, 20, 8, 8},
		{"Low moves by one", 6, 20, 7, 7},
		{"Low is equal", 6, 20, 6, 6},
		{"Low is above by one", 6, 20, 5, 6},
		{"Low is far above", 500, 1000, 4, 500},
		{"no reader", 6, 20, 0, 6},
		{"no reader and the open window", 0, 1000, 0, 0},
		{"the last reader and the open window", 0, 1000, 999, 999},
		{"Low meets High", 6, 20, 20, 20},
		{"Low ends above High", 6, 20, 21, 21},
		{"Low ends far above High", 6, 20, 999, 999},
		{"Low is above High before and stays", 20, 6, 10, 20},
		{"Low is above High before and moves", 20, 6, 21, 21},
		{"all limits", 999, 1, 999, 999},
		{"from one limit to the other", 0, 1, 999, 999},
		{"Low at its limit", 999, 1000, 0, 999},
	}
	for _, c := range cases {
		for _, x := range activeReaders() {
			x.Low, x.High = c.low, c.high
			for key := range impl.MaxKeys {
				s := impl.NewStore()
				s.Chains[key] = initialChain(c.reader)
				got := checkWritten(t, s, x, key, 5)
				if got.Low != c.wantLow || got.High != c.high {
					t.Errorf("%s: from %d and %d to %d and %d, want %d and %d", c.name, c.low, c.high, got.Low, got.High, c.wantLow, c.high)
				}
			}
		}
	}
}

func TestEveryWindowAfterAWrite(t *testing.T) {
	ends := []int{0, 1, 2, 6, 7, 8, 20, 998, 999}
	s := impl.NewStore()
	for _, low := range ends {
		for _, high := range append(ends[1:], 1000) {
			for _, created := range ends[1:] {
				for _, reader := range ends {
					x := writerOf(impl.Write{Key: 2, Value: 7})
					x.Low, x.High = low, high
					s.Chains[1] = initialChain(reader)
					// What the older version demands does not count any more.
					s.Chains[2] = []impl.Version{version(0, -1, 0, reader, created), version(4, 5, created, max(created, reader), 1000)}
					checkWritten(t, s, x, 1, 9)
					checkWritten(t, s, x, 2, 9)
				}
			}
		}
	}
}

func TestOnlyTheLatestVersionRaisesLow(t *testing.T) {
	for key, reader := range latestReaders {
		x, _ := impl.NewTransaction(2, impl.SchemeOptimistic, 1)
		x = checkWritten(t, writeStore(), x, key, 5)
		if x.Low != reader || impl.RefreshLow(writeStore(), x) != reader {
			t.Errorf("after a write of key %d Low is %d and RefreshLow %d, want %d", key, x.Low, impl.RefreshLow(writeStore(), x), reader)
		}
	}
}

func TestSecondWriteOfAKey(t *testing.T) {
	s := writeStore()
	lists := [][]impl.Write{
		{{Key: 2, Value: 7}},
		{{Key: 2, Value: 7}, {Key: 3, Value: 8}},
		{{Key: 1, Value: 6}, {Key: 2, Value: 7}},
		{{Key: 1, Value: 6}, {Key: 2, Value: 7}, {Key: 3, Value: 8}},
		{{Key: 0, Value: 7}, {Key: 2, Value: 7}, {Key: 5, Value: 7}},
		{{Key: 0, Value: -1}, {Key: 1, Value: 0}, {Key: 2, Value: 99}, {Key: 3, Value: -1}, {Key: 4, Value: 0}, {Key: 5, Value: 99}},
	}
	for _, l := range lists {
		for at, w := range l {
			for _, value := range []int{-1, 0, 7, 42, 99, w.Value} {
				x := checkWritten(t, s, writerOf(l...), w.Key, value)
				want := slices.Clone(l)
				want[at].Value = value
				if !slices.Equal(x.Writes, want) {
					t.Errorf("after a write of %d into key %d of %v: %v", value, w.Key, l, x.Writes)
				}
				if again := checkWritten(t, s, x, w.Key, value); !sameTransaction(again, x) {
					t.Errorf("the same write changes %v to %v", x, again)
				}
				if back := checkWritten(t, s, x, w.Key, w.Value); !slices.Equal(back.Writes, l) {
					t.Errorf("after a write of the first value: %v, want %v", back.Writes, l)
				}
			}
		}
	}
}

// Between the two writes the version has been read, or overwritten.
func TestSecondWriteAfterOthers(t *testing.T) {
	x, _ := impl.NewTransaction(2, impl.SchemeOptimistic, 1)
	s := writeStore()
	x = checkWritten(t, s, x, 1, 5)
	s.Chains[1][1].Reader = 11
	x = checkWritten(t, s, x, 1, 5)
	if x.Low != 11 {
		t.Errorf("after another reader Low is %d, want 11", x.Low)
	}
	s.Chains[1][1].Successor = 14
	s.Chains[1] = append(s.Chains[1], version(3, 6, 15, 15, 1000))
	if x = checkWritten(t, s, x, 1, 6); x.Low != 15 {
		t.Errorf("after another writer Low is %d, want 15", x.Low)
	}
	if x = checkWritten(t, writeStore(), x, 1, 7); x.Low != 15 {
		t.Errorf("a version with a lower Reader lowers Low to %d", x.Low)
	}
	if want := (impl.Transaction{ID: 2, Scheme: 3, State: 1, Begin: 1, Low: 15, High: 1000, Writes: []impl.Write{{Key: 1, Value: 7}}}); !sameTransaction(x, want) {
		t.Errorf("after four writes of one key: %v, want %v", x, want)
	}
}

// permutations returns all orders of the numbers from 0 to n-1.
func permutations(n int) [][]int {
	if n == 0 {
		return [][]int{nil}
	}
	var orders [][]int
	for _, order := range permutations(n - 1) {
		for at := range n {
			orders = append(orders, slices.Insert(slices.Clone(order), at, n-1))
		}
	}
	return orders
}

func TestWritesOfAllKeysInEveryOrder(t *testing.T) {
	s := writeStore()
	want := impl.Transaction{ID: 4, Scheme: 1, State: 1, Begin: 2, Low: 998, High: 1000, Writes: []impl.Write{{Key: 0, Value: 99}, {Key: 1, Value: 80}, {Key: 2, Value: 61}, {Key: 3, Value: 42}, {Key: 4, Value: 23}, {Key: 5, Value: 4}}}
	orders := permutations(impl.MaxKeys)
	if len(orders) != 720 {
		t.Fatal("orders:", len(orders))
	}
	for _, order := range orders {
		x, _ := impl.NewTransaction(4, impl.SchemeCommitted, 2)
		low := 0
		for n, key := range order {
			x = checkWritten(t, s, x, key, key)
			low = max(low, latestReaders[key])
			if len(x.Writes) != n+1 || x.Low != low {
				t.Fatalf("after the writes of %v: %v, want Low %d", order[:n+1], x, low)
			}
		}
		for _, key := range order {
			x = checkWritten(t, s, x, key, 99-19*key)
		}
		if !sameTransaction(x, want) {
			t.Fatalf("after two writes of each key in the order %v: %v, want %v", order, x, want)
		}
	}
}

func TestManyReadsAndWritesInAnyOrder(t *testing.T) {
	random := rand.New(rand.NewSource(7))
	for _, s := range writeStores() {
		marks := marksOf(s)
		for range 20 {
			x, _ := impl.NewTransaction(1+random.Intn(9), 1+random.Intn(4), random.Intn(1000))
			for range 60 {
				if random.Intn(3) == 0 {
					m := marks[random.Intn(len(marks))]
					v, _ := visibleVersion(s.Chains[m.Key], m.Created)
					x = checkTracked(t, x, m.Key, v)
				} else {
					x = checkWritten(t, s, x, random.Intn(6), random.Intn(101)-1)
				}
				if low, high := impl.RefreshLow(s, x), impl.RefreshHigh(s, x); x.Low != low || x.High != high {
					t.Fatalf("the window of %v is not that of RefreshLow and RefreshHigh, %d and %d", x, low, high)
				}
			}
		}
	}
}

func TestReadValueAfterAWrite(t *testing.T) {
	for _, s := range []impl.Store{writeStore(), readStore(), impl.NewStore()} {
		for _, x := range activeReaders() {
			for key := range impl.MaxKeys {
				for _, value := range []int{-1, 0, 42, 99} {
					written := checkWritten(t, s, x, key, value)
					// The own write counts, whatever the version.
					for _, created := range append([]int{-1, 0, 1, 2, 4, 7, 26, 28, 999, 1000}, farInts...) {
						if got, ok := impl.ReadValue(s, written, key, created); got != value || !ok {
							t.Errorf("ReadValue of key %d and version %d after a write of %d = %d, %t", key, created, value, got, ok)
						}
					}
				}
			}
		}
	}
	x := checkWritten(t, readStore(), checkWritten(t, readStore(), activeTransaction(), 1, 42), 1, 43)
	if got, ok := impl.ReadValue(readStore(), x, 1, 7); got != 43 || !ok {
		t.Errorf("ReadValue after the second write of key 1 = %d, %t", got, ok)
	}
	if got, ok := impl.ReadValue(readStore(), x, 5, 1); got != 13 || !ok {
		t.Errorf("ReadValue of key 5 after writes of key 1 = %d, %t", got, ok)
	}
}

func TestTrackWriteRefusesInvalidStores(t *testing.T) {
	for _, s := range invalidStores() {
		for _, x := range activeReaders() {
			for key := range impl.MaxKeys {
				checkWriteRefused(t, "invalid store", s, x, key, 5)
			}
		}
		checkWriteRefused(t, "invalid store and transaction", s, impl.Transaction{}, 0, 5)
		checkWriteRefused(t, "invalid store and key", s, fullTransaction(), impl.MaxKeys, 5)
		checkWriteRefused(t, "invalid store and value", s, activeTransaction(), 0, -2)
	}
}

func TestTrackWriteRefusesInvalidTransactions(t *testing.T) {
	for _, x := range invalidTransactions() {
		for key := range impl.MaxKeys {
			checkWriteRefused(t, "invalid transaction", writeStore(), x, key, 5)
		}
		checkWriteRefused(t, "invalid transaction, key and value", writeStore(), x, -1, 100)
	}
}

func TestTrackWriteRefusesEndedTransactions(t *testing.T) {
	for _, base := range activeReaders() {
		ended := inEveryState(base)
		for key := range impl.MaxKeys {
			checkWritten(t, writeStore(), ended[0], key, 5)
			checkWriteRefused(t, "committed", writeStore(), ended[1], key, 5)
			checkWriteRefused(t, "aborted", writeStore(), ended[2], key, 5)
		}
		for _, x := range ended[1:] {
			for _, w := range x.Writes {
				checkWriteRefused(t, "ended, the same write again", writeStore(), x, w.Key, w.Value)
			}
		}
	}
}

func TestTrackWriteRefusesKeysThatDoNotExist(t *testing.T) {
	for _, s := range []impl.Store{writeStore(), impl.NewStore()} {
		for _, x := range activeReaders() {
			for _, key := range append([]int{-1, -6, impl.MaxKeys, impl.MaxKeys + 1}, farInts...) {
				for _, value := range []int{-2, -1, 0, 5, 99, 100} {
					checkWriteRefused(t, "key", s, x, key, value)
				}
			}
		}
	}
}

func TestTrackWriteRefusesOtherValues(t *testing.T) {
	for _, x := range activeReaders() {
		for key := range impl.MaxKeys {
			checkWritten(t, writeStore(), x, key, impl.Absent)
			checkWritten(t, writeStore(), x, key, impl.MaxValue)
			for _, value := range append([]int{impl.Absent - 1, impl.MaxValue + 1, -3, 101, 999, 1000}, farInts...) {
				checkWriteRefused(t, "value", writeStore(), x, key, value)
			}
		}
	}
}

// checkWriteRule compares what chapter 7 returns for the reads and the writes of a transaction, in every state.
func checkWriteRule(t *testing.T, what string, s impl.Store, x impl.Transaction, low int, overwritten []impl.ReadMark) {
	t.Helper()
	var keys []int
	for _, w := range x.Writes {
		keys = append(keys, w.Key)
	}
	for _, y := range inEveryState(x) {
		if got := impl.RefreshLow(s, y); got != low {
			t.Errorf("%s: RefreshLow(%v, %v) = %d, want %d", what, s, y, got, low)
		}
		if got := impl.OverwrittenVersions(s, y); !slices.Equal(got, overwritten) {
			t.Errorf("%s: OverwrittenVersions(%v, %v) = %v, want %v", what, s, y, got, overwritten)
		}
		if got := impl.WriteKeys(y); !slices.Equal(got, keys) {
			t.Errorf("%s: WriteKeys(%v) = %v, want %v", what, y, got, keys)
		}
	}
}

func TestRefreshLow(t *testing.T) {
	cases := []struct {
		name   string
		reads  []impl.ReadMark
		writes []int
		want   int
	}{
		{"no reads and no writes", nil, nil, 0},
		{"a read of an initial version", []impl.ReadMark{{Key: 3}}, nil, 0},
		{"one read", []impl.ReadMark{{Key: 2, Created: 6}}, nil, 6},
		{"the greatest read first", []impl.ReadMark{{Key: 1, Created: 4}, {Key: 2, Created: 3}, {Key: 4, Created: 2}}, nil, 4},
		{"the greatest read in the middle", []impl.ReadMark{{Key: 1, Created: 4}, {Key: 2, Created: 7}, {Key: 4, Created: 2}}, nil, 7},
		{"the greatest read last", []impl.ReadMark{{Key: 1, Created: 4}, {Key: 2, Created: 7}, {Key: 5, Created: 20}}, nil, 20},
		{"two reads of one key", []impl.ReadMark{{Key: 5, Created: 20}, {Key: 5, Created: 28}}, nil, 28},
		{"a write of a version that nobody read", nil, []int{0}, 0},
		{"one write", nil, []int{4}, 12},
		{"one write whose older version has the greater Reader", nil, []int{1}, 9},
		{"one write whose middle version has the greater Reader", nil, []int{2}, 7},
		{"the greatest write first", nil, []int{1, 2}, 9},
		{"the greatest write in the middle", nil, []int{2, 3, 4}, 998},
		{"the greatest write last", nil, []int{1, 4, 5}, 30},
		{"all writes", nil, []int{0, 1, 2, 3, 4, 5}, 998},
		{"a read above the writes", []impl.ReadMark{{Key: 5, Created: 26}}, []int{0, 1, 4}, 26},
		{"a write above the reads", []impl.ReadMark{{Key: 1, Created: 4}, {Key: 2, Created: 7}}, []int{1, 4}, 12},
		{"a read and a write with the same number", []impl.ReadMark{{Key: 2, Created: 7}}, []int{2}, 7},
		{"a read and a write of one key", []impl.ReadMark{{Key: 1, Created: 4}}, []int{1}, 9},
		{"a read of a version that does not exist", []impl.ReadMark{{Key: 0, Created: 500}}, []int{1}, 500},
		{"reads of versions that do not exist", []impl.ReadMark{{Key: 0, Created: 1}, {Key: 1, Created: 999}, {Key: 3, Created: 2}}, nil, 999},
		{"a read of a version that does not exist below a write", []impl.ReadMark{{Key: 0, Created: 3}}, []int{4}, 12},
	}
	for _, c := range cases {
		for _, base := range []impl.Transaction{activeTransaction(), fullTransaction()} {
			base.Reads, base.Writes = c.reads, nil
			var overwritten []impl.ReadMark
			for _, key := range c.writes {
				base.Writes = append(base.Writes, impl.Write{Key: key, Value: 3 * key})
				overwritten = append(overwritten, impl.ReadMark{Key: key, Created: []int{0, 4, 7, 0, 2, 28}[key]})
			}
			checkWriteRule(t, c.name, writeStore(), base, c.want, overwritten)
		}
	}
}

// Neither the window nor the stamps of the transaction count.
func TestRefreshLowNeedsOnlyReadsAndWrites(t *testing.T) {
	for _, low := range []int{0, 3, 999} {
		for _, high := range []int{1, 4, 1000} {
			for _, begin := range []int{0, 999} {
				x := fullTransaction()
				x.Low, x.High, x.Begin, x.Commit = low, high, begin, max(1, begin)
				if got := impl.RefreshLow(writeStore(), x); got != 12 {
					t.Errorf("RefreshLow of %v = %d, want 12", x, got)
				}
				x.Reads, x.Writes = nil, nil
				if got := impl.RefreshLow(writeStore(), x); got != 0 {
					t.Errorf("RefreshLow of %v = %d, want 0", x, got)
				}
			}
		}
	}
}

func TestEverySetOfReadsAndWrites(t *testing.T) {
	s := writeStore()
	marks := marksOf(s)
	for set := range 1 << (len(marks) + impl.MaxKeys) {
		x, low := activeTransaction(), 0
		var overwritten []impl.ReadMark
		for key := range impl.MaxKeys {
			if set>>key&1 == 1 {
				x.Writes = append(x.Writes, impl.Write{Key: key, Value: (set+key)%101 - 1})
				v := latestIn(s, key)
				overwritten = append(overwritten, impl.ReadMark{Key: key, Created: v.Created})
				low = max(low, v.Reader)
			}
		}
		for i, m := range marks {
			if set>>(impl.MaxKeys+i)&1 == 1 {
				x.Reads = append(x.Reads, m)
				low = max(low, m.Created)
			}
		}
		checkWriteRule(t, "set", s, x, low, overwritten)
	}
}

func TestOverwrittenVersions(t *testing.T) {
	latest := []impl.ReadMark{{Key: 0, Created: 4}, {Key: 1, Created: 7}, {Key: 2, Created: 0}, {Key: 3, Created: 3}, {Key: 4, Created: 9}, {Key: 5, Created: 1}}
	for set := range 1 << impl.MaxKeys {
		x := activeTransaction()
		// What is read does not count, not even if it is no version.
		x.Reads = missingMarks()[set%9 : set%9+1]
		low := x.Reads[0].Created
		var want []impl.ReadMark
		for key, m := range latest {
			if set>>key&1 == 1 {
				x.Writes = append(x.Writes, impl.Write{Key: key, Value: 99 - key})
				want = append(want, m)
				low = max(low, []int{9, 8, 5, 9, 9, 2}[key])
			}
		}
		checkWriteRule(t, "readStore", readStore(), x, low, want)
		initial := slices.Clone(want)
		for i := range initial {
			initial[i].Created = 0
		}
		checkWriteRule(t, "initial versions", impl.NewStore(), x, x.Reads[0].Created, initial)
	}
}

func TestOverwrittenVersionsOfEveryStore(t *testing.T) {
	for _, s := range writeStores() {
		for key := range impl.MaxKeys {
			x := writerOf(impl.Write{Key: key, Value: 5})
			checkWriteRule(t, "one write", s, x, latestIn(s, key).Reader, []impl.ReadMark{{Key: key, Created: latestIn(s, key).Created}})
		}
	}
}

func TestWriteRuleOfInvalidStores(t *testing.T) {
	for _, s := range invalidStores() {
		for _, x := range []impl.Transaction{activeTransaction(), fullTransaction(), writerOf(impl.Write{Key: 0}), writerOf(impl.Write{Key: 5}), readerOf(marksOf(readStore())...)} {
			checkWriteRule(t, "invalid store", s, x, 0, nil)
		}
	}
}

func TestWriteRuleOfInvalidTransactions(t *testing.T) {
	for _, s := range []impl.Store{writeStore(), {}} {
		for _, x := range invalidTransactions() {
			if got := impl.RefreshLow(s, x); got != 0 {
				t.Errorf("RefreshLow(%v, %v) = %d", s, x, got)
			}
			if got := impl.OverwrittenVersions(s, x); len(got) != 0 {
				t.Errorf("OverwrittenVersions(%v, %v) = %v", s, x, got)
			}
			if got := impl.WriteKeys(x); len(got) != 0 {
				t.Errorf("WriteKeys(%v) = %v", x, got)
			}
		}
	}
}

func TestTrackWriteLeavesSpareCapacity(t *testing.T) {
	for _, whole := range append(invalidStores()[:12], writeStore(), mixedStore()) {
		s, stays := storeWithSpare(whole)
		for _, x := range slices.Concat(invalidTransactions(), activeReaders(), inEveryState(fullTransaction())) {
			part, longer := withSpare(x)
			before := cloneTransaction(longer)
			for _, w := range []impl.Write{{Key: -1}, {Key: 0, Value: -1}, {Key: 1, Value: 50}, {Key: 3, Value: 99}, {Key: 4, Value: 100}, {Key: 5}, {Key: 6}} {
				got, _ := impl.TrackWrite(s, part, w.Key, w.Value)
				other, _ := impl.TrackWrite(s, part, w.Key, w.Value)
				want := cloneTransaction(other)
				checkOwnMemory(t, "TrackWrite", longer, got)
				if !sameTransaction(longer, before) || !sameTransaction(part, x) {
					t.Fatalf("TrackWrite(%v, %v) changes its argument, or what is behind its lists: %v", x, w, longer)
				}
				if !sameTransaction(other, want) {
					t.Fatalf("two results of TrackWrite(%v, %v) share memory", x, w)
				}
			}
		}
		if !stays() {
			t.Fatalf("TrackWrite modifies the store: %v", s)
		}
	}
}

func TestWriteRuleResultsAreNewMemory(t *testing.T) {
	for _, x := range append(activeReaders(), writerOf(impl.Write{Key: 2, Value: 3}), fullTransaction()) {
		part, whole := withSpare(x)
		before := cloneTransaction(whole)
		s, stays := storeWithSpare(writeStore())
		marks, otherMarks := impl.OverwrittenVersions(s, part), impl.OverwrittenVersions(s, part)
		keys, otherKeys := impl.WriteKeys(part), impl.WriteKeys(part)
		wantMarks, wantKeys := slices.Clone(otherMarks), slices.Clone(otherKeys)
		for i := range marks[:cap(marks)] {
			marks[:cap(marks)][i] = impl.ReadMark{Key: 77, Created: -77}
		}
		for i := range keys[:cap(keys)] {
			keys[:cap(keys)][i] = 77
		}
		if !sameTransaction(whole, before) || !slices.Equal(otherMarks, wantMarks) || !slices.Equal(otherKeys, wantKeys) || !stays() {
			t.Errorf("writing into the results for %v changes an argument or another result: %v, %v, %v", x, whole, otherMarks, otherKeys)
		}
	}
}

func TestWriteRuleArgumentsStay(t *testing.T) {
	for _, whole := range append(invalidStores(), writeStore(), mixedStore()) {
		s, stays := storeWithSpare(whole)
		for _, x := range slices.Concat(activeReaders(), []impl.Transaction{fullTransaction(), writerOf(invalidWrites()[10]...)}) {
			part, longer := withSpare(x)
			before := cloneTransaction(longer)
			impl.RefreshLow(s, part)
			impl.OverwrittenVersions(s, part)
			impl.WriteKeys(part)
			if !sameTransaction(longer, before) || !sameTransaction(part, x) {
				t.Fatalf("the transaction %v is modified: %v", x, longer)
			}
		}
		if !stays() {
			t.Fatalf("the store is modified: %v", s)
		}
	}
}
