package tests

import (
	"math"
	"math/rand"
	"slices"
	"testing"

	"loop.example/g01924/impl"
)

// readStore returns a store with chains of one, two and three versions, one of a deleted key and one whose initial version is not there any more.
func readStore() impl.Store {
	return chainsOf(
		[]impl.Version{version(0, -1, 0, 3, 4), version(2, 10, 4, 9, 1000)},
		[]impl.Version{version(0, -1, 0, 1, 2), version(1, 11, 2, 6, 6), version(3, 12, 7, 8, 1000)},
		initialChain(5),
		[]impl.Version{version(0, -1, 0, 0, 3), version(4, -1, 3, 9, 1000)},
		[]impl.Version{version(5, 0, 5, 5, 8), version(6, 99, 9, 9, 1000)},
		[]impl.Version{version(0, -1, 0, 1, 1), version(7, 13, 1, 2, 1000)},
	)
}

// marksOf returns the marks of all versions of a store, in order.
func marksOf(s impl.Store) []impl.ReadMark {
	var l []impl.ReadMark
	for key, chain := range s.Chains {
		for _, v := range chain {
			l = append(l, impl.ReadMark{Key: key, Created: v.Created})
		}
	}
	return l
}

// missingMarks returns marks, with existing keys and stamps, of versions that readStore does not contain.
func missingMarks() []impl.ReadMark {
	return []impl.ReadMark{
		{Key: 0, Created: 1}, {Key: 0, Created: 3}, {Key: 0, Created: 5}, {Key: 0, Created: 9}, {Key: 0, Created: 999}, {Key: 1, Created: 1}, {Key: 1, Created: 4}, {Key: 1, Created: 6}, {Key: 1, Created: 8},
		{Key: 2, Created: 1}, {Key: 2, Created: 5}, {Key: 2, Created: 999}, {Key: 3, Created: 4}, {Key: 4, Created: 0}, {Key: 4, Created: 4}, {Key: 4, Created: 8}, {Key: 5, Created: 2}, {Key: 5, Created: 7},
	}
}

func readerOf(marks ...impl.ReadMark) impl.Transaction {
	t := activeTransaction()
	t.Reads = slices.Clone(marks)
	return t
}

// inEveryState returns the transaction as an active, a committed and an aborted one.
func inEveryState(t impl.Transaction) []impl.Transaction {
	active, committed, aborted := t, t, t
	active.State, active.Commit = impl.StateActive, 0
	committed.State, committed.Commit = impl.StateCommitted, 9
	aborted.State, aborted.Commit = impl.StateAborted, 0
	return []impl.Transaction{active, committed, aborted}
}

// activeReaders returns valid active transactions with different lists of reads and writes.
func activeReaders() []impl.Transaction {
	full := inEveryState(fullTransaction())[0]
	onlyWrites := cloneTransaction(full)
	onlyWrites.Reads = nil
	fresh, _ := impl.NewTransaction(9, impl.SchemeOrdered, 999)
	return []impl.Transaction{activeTransaction(), full, onlyWrites, fresh, readerOf(impl.ReadMark{Key: 3, Created: 999}), readerOf(spreadReads(9)...), readerOf(readsOf(2, 59)...)}
}

// trackedReads adds the mark by the definition: the reads contain it, once, and are in order.
func trackedReads(reads []impl.ReadMark, m impl.ReadMark) []impl.ReadMark {
	l := slices.Clone(reads)
	if !slices.Contains(l, m) {
		l = append(l, m)
	}
	slices.SortFunc(l, func(a, b impl.ReadMark) int { return (a.Key-b.Key)*1000 + a.Created - b.Created })
	return l
}

// checkTracked tracks the read and compares every field with the promise.
func checkTracked(t *testing.T, x impl.Transaction, key int, v impl.Version) impl.Transaction {
	t.Helper()
	want := cloneTransaction(x)
	want.Reads = trackedReads(x.Reads, impl.ReadMark{Key: key, Created: v.Created})
	if v.Created > x.Low {
		want.Low = v.Created
	}
	if v.Successor < x.High {
		want.High = v.Successor
	}
	before := cloneTransaction(x)
	got, ok := impl.TrackRead(x, key, v)
	if !ok || !sameTransaction(got, want) {
		t.Errorf("TrackRead(%v, %d, %v) = %v, %t, want %v", x, key, v, got, ok, want)
	}
	if !impl.IsValidTransaction(got) {
		t.Errorf("TrackRead(%v, %d, %v) is not valid: %v", x, key, v, got)
	}
	if !sameTransaction(x, before) {
		t.Errorf("TrackRead changes its argument %v to %v", before, x)
	}
	return got
}

func checkRefused(t *testing.T, what string, x impl.Transaction, key int, v impl.Version) {
	t.Helper()
	before := cloneTransaction(x)
	got, ok := impl.TrackRead(x, key, v)
	if ok || !sameTransaction(got, before) {
		t.Errorf("%s: TrackRead(%v, %d, %v) = %v, %t", what, before, key, v, got, ok)
	}
	checkOwnMemory(t, what, x, got)
}

// checkOwnMemory writes into all memory of the result and expects the argument as it was.
func checkOwnMemory(t *testing.T, what string, x, got impl.Transaction) {
	t.Helper()
	before := cloneTransaction(x)
	reads, writes := got.Reads[:cap(got.Reads)], got.Writes[:cap(got.Writes)]
	for i := range reads {
		reads[i] = impl.ReadMark{Key: 77, Created: -77}
	}
	for i := range writes {
		writes[i] = impl.Write{Key: 77, Value: -77}
	}
	if !sameTransaction(x, before) {
		t.Errorf("%s: writing into the result changes the argument %v to %v", what, before, x)
	}
}

func TestTrackReadOfEveryKey(t *testing.T) {
	versions := []impl.Version{
		version(0, -1, 0, 0, 1000), version(0, -1, 0, 999, 1), version(1, -1, 1, 1, 1), version(9, 99, 7, 8, 9), version(3, 0, 6, 9, 20), version(3, 0, 7, 9, 19), version(3, 5, 5, 5, 21), version(4, 50, 999, 999, 1000),
	}
	for _, x := range activeReaders() {
		for key := range impl.MaxKeys {
			for _, v := range versions {
				checkTracked(t, x, key, v)
			}
		}
	}
}

func TestTrackReadOfEveryScheme(t *testing.T) {
	for scheme := impl.SchemeCommitted; scheme <= impl.SchemeOrdered; scheme++ {
		for _, begin := range []int{0, 3, 999} {
			for id := 1; id <= impl.MaxTransactionID; id++ {
				x, _ := impl.NewTransaction(id, scheme, begin)
				y := checkTracked(t, x, 4, version(id, 8, 5, 6, 7))
				if y.Low != 5 || y.High != 7 || y.Begin != begin || y.ID != id || y.Scheme != scheme || !slices.Equal(y.Reads, []impl.ReadMark{{Key: 4, Created: 5}}) {
					t.Errorf("after a read of the version 5 with the successor 7: %v", y)
				}
			}
		}
	}
}

func TestWindowAfterARead(t *testing.T) {
	cases := []struct {
		name               string
		low, high          int
		created, successor int
		wantLow, wantHigh  int
	}{
		{"both ends move", 6, 20, 8, 15, 8, 15},
		{"by one", 6, 20, 7, 19, 7, 19},
		{"neither end moves", 6, 20, 5, 21, 6, 20},
		{"both ends are equal", 6, 20, 6, 20, 6, 20},
		{"only the low end moves", 6, 20, 10, 1000, 10, 20},
		{"only the high end moves", 6, 20, 3, 12, 6, 12},
		{"the open window and the initial version", 0, 1000, 0, 1000, 0, 1000},
		{"the open window and the overwritten initial version", 0, 1000, 0, 1, 0, 1},
		{"the open window and the last version", 0, 1000, 999, 1000, 999, 1000},
		{"Low meets High", 6, 20, 6, 6, 6, 6},
		{"Low ends above High", 6, 20, 12, 10, 12, 10},
		{"Low passes High", 6, 20, 30, 40, 30, 20},
		{"High passes Low", 6, 20, 2, 3, 6, 3},
		{"Low is above High before", 20, 6, 10, 10, 20, 6},
		{"Low is above High before and both move", 20, 6, 21, 5, 21, 5},
		{"all limits", 999, 1, 999, 1, 999, 1},
		{"from one limit to the other", 0, 1000, 999, 1, 999, 1},
	}
	for _, c := range cases {
		for _, x := range activeReaders() {
			x.Low, x.High = c.low, c.high
			v := version(4, 5, c.created, max(c.created, 30), c.successor)
			if c.created == 0 {
				v = version(0, -1, 0, 30, c.successor)
			}
			got := checkTracked(t, x, 5, v)
			if got.Low != c.wantLow || got.High != c.wantHigh {
				t.Errorf("%s: from %d and %d to %d and %d, want %d and %d", c.name, c.low, c.high, got.Low, got.High, c.wantLow, c.wantHigh)
			}
		}
	}
}

func TestEveryWindowAfterARead(t *testing.T) {
	ends := []int{0, 1, 2, 6, 7, 8, 20, 998, 999}
	for _, low := range ends {
		for _, high := range append(ends[1:], 1000) {
			for _, created := range ends {
				for _, successor := range append(ends[1:], 1000) {
					x := readerOf(impl.ReadMark{Key: 1, Created: 7}, impl.ReadMark{Key: 2, Created: 7})
					x.Low, x.High = low, high
					v := version(4, 5, created, 999, successor)
					if created == 0 {
						v = version(0, -1, 0, 999, successor)
					}
					checkTracked(t, x, 1, v)
				}
			}
		}
	}
}

func TestTwoVersionsOfOneKey(t *testing.T) {
	older, newer := version(0, -1, 0, 1, 2), version(1, 5, 3, 3, 1000)
	pairs := [][2]impl.Version{{older, newer}, {version(2, 5, 8, 8, 9), version(3, 6, 9, 9, 1000)}, {version(2, 5, 9, 9, 10), version(3, 6, 10, 12, 15)}, {version(2, -1, 1, 1, 1), version(3, 0, 999, 999, 1000)}}
	for _, pair := range pairs {
		for key := range impl.MaxKeys {
			for _, x := range activeReaders()[:4] {
				x.Reads = slices.DeleteFunc(slices.Clone(x.Reads), func(m impl.ReadMark) bool { return m.Key == key })
				ascending := checkTracked(t, checkTracked(t, x, key, pair[0]), key, pair[1])
				descending := checkTracked(t, checkTracked(t, x, key, pair[1]), key, pair[0])
				var marks []impl.ReadMark
				for _, m := range ascending.Reads {
					if m.Key == key {
						marks = append(marks, m)
					}
				}
				if !slices.Equal(marks, []impl.ReadMark{{Key: key, Created: pair[0].Created}, {Key: key, Created: pair[1].Created}}) || len(ascending.Reads) != len(x.Reads)+2 {
					t.Errorf("two versions of key %d are the marks %v", key, ascending.Reads)
				}
				if !sameTransaction(ascending, descending) {
					t.Errorf("the order of two reads matters: %v and %v", ascending, descending)
				}
			}
		}
	}
	x, _ := impl.NewTransaction(2, impl.SchemeCommitted, 1)
	x, _ = impl.TrackRead(x, 0, newer)
	x, ok := impl.TrackRead(x, 0, older)
	if want := (impl.Transaction{ID: 2, Scheme: 1, State: 1, Begin: 1, Low: 3, High: 2, Reads: []impl.ReadMark{{Key: 0, Created: 0}, {Key: 0, Created: 3}}}); !ok || !sameTransaction(x, want) {
		t.Errorf("after two reads of key 0: %v, want %v", x, want)
	}
}

func TestVersionThatIsReadAgain(t *testing.T) {
	x := readerOf(impl.ReadMark{Key: 1, Created: 2}, impl.ReadMark{Key: 1, Created: 7}, impl.ReadMark{Key: 4, Created: 0})
	for _, m := range x.Reads {
		for _, c := range []struct{ low, high, successor, wantLow, wantHigh int }{
			// The window of the transaction may be wider than its reads demand, and the version may have been overwritten since.
			{0, 1000, 1000, m.Created, 1000}, {0, 1000, 15, m.Created, 15}, {9, 12, 1000, 9, 12}, {9, 12, 11, 9, 11}, {1, 12, 11, max(1, m.Created), 11}, {8, 30, 1, 8, 1},
		} {
			x.Low, x.High = c.low, c.high
			v := version(4, 5, m.Created, 8, c.successor)
			if m.Created == 0 {
				v = version(0, -1, 0, 8, c.successor)
			}
			got := checkTracked(t, x, m.Key, v)
			if !slices.Equal(got.Reads, x.Reads) || got.Low != c.wantLow || got.High != c.wantHigh {
				t.Errorf("%v read again with the window %d, %d and the successor %d: %v", m, c.low, c.high, c.successor, got)
			}
			if again := checkTracked(t, got, m.Key, v); !sameTransaction(again, got) {
				t.Errorf("the same read changes %v to %v", got, again)
			}
		}
	}
}

func TestManyReadsInAnyOrder(t *testing.T) {
	random := rand.New(rand.NewSource(6))
	s := mixedStore()
	marks := marksOf(s)
	for range 40 {
		x, _ := impl.NewTransaction(1+random.Intn(9), 1+random.Intn(4), random.Intn(1000))
		order := random.Perm(len(marks))[:60]
		for n, i := range order {
			// Some versions are read for a second time.
			for _, m := range []impl.ReadMark{marks[i], marks[order[random.Intn(n+1)]]} {
				if len(x.Reads) < 60 {
					v, _ := visibleVersion(s.Chains[m.Key], m.Created)
					x = checkTracked(t, x, m.Key, v)
				}
			}
		}
		if len(x.Reads) != 60 {
			t.Fatalf("%d reads of 60 versions: %v", len(x.Reads), x)
		}
		if !impl.ReadsExist(s, x) || x.High != impl.RefreshHigh(s, x) {
			t.Errorf("after 60 reads High is %d and RefreshHigh %d", x.High, impl.RefreshHigh(s, x))
		}
		greatest := 0
		for _, m := range x.Reads {
			greatest = max(greatest, m.Created)
		}
		if x.Low != greatest {
			t.Errorf("after 60 reads up to version %d Low is %d", greatest, x.Low)
		}
		checkRefused(t, "60 reads", x, 0, version(0, -1, 0, 0, 1))
	}
}

func TestTrackReadRefusesInvalidTransactions(t *testing.T) {
	for _, x := range invalidTransactions() {
		for key := range impl.MaxKeys {
			checkRefused(t, "invalid transaction", cloneTransaction(x), key, version(4, 5, 8, 9, 10))
			checkRefused(t, "invalid transaction", cloneTransaction(x), key, version(0, -1, 0, 0, 1000))
		}
		checkRefused(t, "invalid transaction", cloneTransaction(x), -1, impl.Version{})
	}
}

func TestTrackReadRefusesEndedTransactions(t *testing.T) {
	for _, base := range activeReaders() {
		ended := inEveryState(base)
		checkTracked(t, ended[0], 2, version(4, 5, 8, 9, 10))
		checkRefused(t, "committed", ended[1], 2, version(4, 5, 8, 9, 10))
		checkRefused(t, "aborted", ended[2], 2, version(4, 5, 8, 9, 10))
		for _, x := range ended[1:] {
			for _, m := range x.Reads {
				checkRefused(t, "ended, read again", x, m.Key, version(4, 5, max(1, m.Created), 999, 10))
			}
		}
	}
}

func TestTrackReadRefusesKeysThatDoNotExist(t *testing.T) {
	for _, x := range activeReaders() {
		for _, key := range append([]int{-1, -6, impl.MaxKeys, impl.MaxKeys + 1}, farInts...) {
			checkRefused(t, "key", x, key, version(4, 5, 8, 9, 10))
			checkRefused(t, "key", x, key, version(0, -1, 0, 0, 1000))
		}
	}
}

func TestTrackReadRefusesInvalidVersions(t *testing.T) {
	for _, x := range activeReaders() {
		for i, v := range invalidVersions() {
			checkRefused(t, "version", x, i%impl.MaxKeys, v)
		}
		checkRefused(t, "key and version", x, impl.MaxKeys, impl.Version{})
	}
}

func TestReadsAtTheLimit(t *testing.T) {
	for _, n := range []int{57, 58, 59} {
		for _, key := range []int{0, 3, 5} {
			x := checkTracked(t, readerOf(readsOf(3, n)...), key, version(4, 5, 500, 600, 700))
			if len(x.Reads) != n+1 {
				t.Errorf("%d reads after one more than %d", len(x.Reads), n)
			}
		}
		// A version that is read again needs no place.
		x := checkTracked(t, readerOf(readsOf(3, n)...), 3, version(4, 5, n-1, 600, 10))
		if len(x.Reads) != n {
			t.Errorf("%d reads after one of %d again", len(x.Reads), n)
		}
	}
	for _, reads := range [][]impl.ReadMark{readsOf(3, 60), spreadReads(10)} {
		x := readerOf(reads...)
		for _, created := range []int{1, 9, 59, 60, 500, 999} {
			for key := range impl.MaxKeys {
				checkRefused(t, "60 reads", x, key, version(4, 5, created, 999, 1000))
				checkRefused(t, "60 reads", x, key, version(4, 5, created, 999, 1))
			}
		}
		for key := range impl.MaxKeys {
			checkRefused(t, "60 reads and the initial version", x, key, version(0, -1, 0, 999, 1))
		}
	}
}

// checkNoReads expects the results of a store and a transaction for which ReadsExist does not hold.
func checkNoReads(t *testing.T, what string, s impl.Store, x impl.Transaction) {
	t.Helper()
	if impl.ReadsExist(s, x) {
		t.Errorf("%s: ReadsExist(%v, %v)", what, s, x)
	}
	if got := impl.RefreshHigh(s, x); got != 0 {
		t.Errorf("%s: RefreshHigh(%v, %v) = %d", what, s, x, got)
	}
	if got := impl.StaleReads(s, x); len(got) != 0 {
		t.Errorf("%s: StaleReads(%v, %v) = %v", what, s, x, got)
	}
}

func checkReads(t *testing.T, what string, s impl.Store, x impl.Transaction, high int, stale []impl.ReadMark) {
	t.Helper()
	if !impl.ReadsExist(s, x) {
		t.Errorf("%s: not ReadsExist(%v, %v)", what, s, x)
	}
	if got := impl.RefreshHigh(s, x); got != high {
		t.Errorf("%s: RefreshHigh(%v, %v) = %d, want %d", what, s, x, got, high)
	}
	if got := impl.StaleReads(s, x); !slices.Equal(got, stale) {
		t.Errorf("%s: StaleReads(%v, %v) = %v, want %v", what, s, x, got, stale)
	}
}

func TestReads(t *testing.T) {
	cases := []struct {
		name  string
		reads []impl.ReadMark
		high  int
		stale []impl.ReadMark
	}{
		{"none", nil, 1000, nil},
		{"an initial version that is the latest", []impl.ReadMark{{Key: 2}}, 1000, nil},
		{"an initial version that is overwritten", []impl.ReadMark{{Key: 0}}, 4, []impl.ReadMark{{Key: 0}}},
		{"the latest version", []impl.ReadMark{{Key: 1, Created: 7}}, 1000, nil},
		{"a version in the middle", []impl.ReadMark{{Key: 1, Created: 2}}, 6, []impl.ReadMark{{Key: 1, Created: 2}}},
		{"a key without its initial version", []impl.ReadMark{{Key: 4, Created: 5}}, 8, []impl.ReadMark{{Key: 4, Created: 5}}},
		{"all latest versions", []impl.ReadMark{{Key: 0, Created: 4}, {Key: 1, Created: 7}, {Key: 2}, {Key: 3, Created: 3}, {Key: 4, Created: 9}, {Key: 5, Created: 1}}, 1000, nil},
		{"all first versions", []impl.ReadMark{{Key: 0}, {Key: 1}, {Key: 2}, {Key: 3}, {Key: 4, Created: 5}, {Key: 5}}, 1, []impl.ReadMark{{Key: 0}, {Key: 1}, {Key: 3}, {Key: 4, Created: 5}, {Key: 5}}},
		{"all versions of a key", []impl.ReadMark{{Key: 1}, {Key: 1, Created: 2}, {Key: 1, Created: 7}}, 2, []impl.ReadMark{{Key: 1}, {Key: 1, Created: 2}}},
		{"the least Successor first", []impl.ReadMark{{Key: 3}, {Key: 4, Created: 5}}, 3, []impl.ReadMark{{Key: 3}, {Key: 4, Created: 5}}},
		{"the least Successor last", []impl.ReadMark{{Key: 0}, {Key: 2}, {Key: 3}}, 3, []impl.ReadMark{{Key: 0}, {Key: 3}}},
		{"the least Successor in the middle", []impl.ReadMark{{Key: 0, Created: 4}, {Key: 1, Created: 2}, {Key: 4, Created: 5}, {Key: 4, Created: 9}}, 6, []impl.ReadMark{{Key: 1, Created: 2}, {Key: 4, Created: 5}}},
	}
	for _, c := range cases {
		for _, base := range []impl.Transaction{activeTransaction(), fullTransaction()} {
			base.Reads = c.reads
			for _, x := range inEveryState(base) {
				checkReads(t, c.name, readStore(), x, c.high, c.stale)
			}
		}
	}
}

// Neither the window of the transaction nor its writes count.
func TestRefreshHighNeedsOnlyTheReads(t *testing.T) {
	for _, low := range []int{0, 3, 999} {
		for _, high := range []int{1, 4, 1000} {
			x := fullTransaction()
			x.Low, x.High = low, high
			checkReads(t, "window", readStore(), x, 6, []impl.ReadMark{{Key: 1, Created: 2}})
			x.Reads = nil
			checkReads(t, "window and no reads", readStore(), x, 1000, nil)
		}
	}
}

func TestReadsAtTheLimitsOfSuccessor(t *testing.T) {
	s := impl.NewStore()
	for _, successor := range []int{1, 2, 500, 998, 999} {
		for key := range impl.MaxKeys {
			s.Chains[key] = []impl.Version{version(0, -1, 0, 0, successor), version(1, 5, 999, 999, 1000)}
			checkReads(t, "Successor", s, readerOf(impl.ReadMark{Key: key}), successor, []impl.ReadMark{{Key: key}})
			checkReads(t, "Infinity", s, readerOf(impl.ReadMark{Key: key, Created: 999}), 1000, nil)
		}
	}
}

func TestEverySetOfReads(t *testing.T) {
	s := readStore()
	marks := marksOf(s)
	for set := range 1 << len(marks) {
		var reads, stale []impl.ReadMark
		high := 1000
		for i, m := range marks {
			if set>>i&1 == 0 {
				continue
			}
			reads = append(reads, m)
			v, _ := visibleVersion(s.Chains[m.Key], m.Created)
			if v.Successor < 1000 {
				stale = append(stale, m)
			}
			high = min(high, v.Successor)
		}
		checkReads(t, "set", s, readerOf(reads...), high, stale)
		m := missingMarks()[set%len(missingMarks())]
		checkNoReads(t, "missing version", s, readerOf(trackedReads(reads, m)...))
	}
}

func TestReadsOfMissingVersions(t *testing.T) {
	s := readStore()
	for _, m := range missingMarks() {
		for _, x := range inEveryState(readerOf(m)) {
			checkNoReads(t, "one missing version", s, x)
			x.Reads = trackedReads(marksOf(s), m)
			checkNoReads(t, "one missing version among all", s, x)
			x.Reads = marksOf(s)
			if !impl.ReadsExist(s, x) {
				t.Error("the versions of a store are not in it:", x)
			}
		}
	}
	for key := range impl.MaxKeys {
		for created := 0; created <= impl.MaxStamp; created++ {
			x := readerOf(impl.ReadMark{Key: key, Created: created})
			want := slices.ContainsFunc(s.Chains[key], func(v impl.Version) bool { return v.Created == created })
			if got := impl.ReadsExist(s, x); got != want {
				t.Errorf("ReadsExist is %t for version %d of key %d", got, created, key)
			}
		}
	}
}

func TestReadsOfSixtyVersions(t *testing.T) {
	s := impl.NewStore()
	s.Chains[0], s.Chains[5] = longChain(50), longChain(50)
	reads := append(readsOf(0, 50), readsOf(5, 10)...)
	stale := slices.Delete(slices.Clone(reads), 49, 50)
	checkReads(t, "60 reads", s, readerOf(reads...), 1, stale)
	checkNoReads(t, "61 reads", s, readerOf(append(reads, impl.ReadMark{Key: 5, Created: 10})...))
}

func TestReadsOfInvalidStores(t *testing.T) {
	full := fullTransaction()
	for _, s := range invalidStores() {
		for _, x := range []impl.Transaction{activeTransaction(), full, readerOf(impl.ReadMark{Key: 0}), readerOf(impl.ReadMark{Key: 5}), readerOf(marksOf(readStore())...)} {
			checkNoReads(t, "invalid store", s, x)
			for _, key := range []int{math.MinInt, -1, 0, 1, 3, 4, 5, 6, math.MaxInt} {
				for _, created := range []int{math.MinInt, -1, 0, 7, 999, math.MaxInt} {
					checkNoValue(t, s, x, key, created)
				}
			}
		}
	}
}

func TestReadsOfInvalidTransactions(t *testing.T) {
	// It contains all versions that fullTransaction reads.
	s := readStore()
	checkReads(t, "all versions", s, fullTransaction(), 6, []impl.ReadMark{{Key: 1, Created: 2}})
	for _, x := range invalidTransactions() {
		checkNoReads(t, "invalid transaction", s, x)
		checkNoReads(t, "invalid transaction and store", impl.Store{}, x)
		for _, key := range []int{math.MinInt, -1, 0, 1, 2, 3, 4, 5, 6, math.MaxInt} {
			for _, created := range []int{math.MinInt, -1, 0, 4, 7, 999, math.MaxInt} {
				checkNoValue(t, s, x, key, created)
			}
		}
	}
}

func checkNoValue(t *testing.T, s impl.Store, x impl.Transaction, key, created int) {
	t.Helper()
	if got, ok := impl.ReadValue(s, x, key, created); got != 0 || ok {
		t.Errorf("ReadValue(%v, %v, %d, %d) = %d, %t", s, x, key, created, got, ok)
	}
}

func TestReadValueOfVersions(t *testing.T) {
	s := readStore()
	values := map[impl.ReadMark]int{
		{Key: 0, Created: 0}: -1, {Key: 0, Created: 4}: 10, {Key: 1, Created: 0}: -1, {Key: 1, Created: 2}: 11, {Key: 1, Created: 7}: 12, {Key: 2, Created: 0}: -1,
		{Key: 3, Created: 0}: -1, {Key: 3, Created: 3}: -1, {Key: 4, Created: 5}: 0, {Key: 4, Created: 9}: 99, {Key: 5, Created: 0}: -1, {Key: 5, Created: 1}: 13,
	}
	// Whether the transaction has read the version, or versions that do not exist, does not count.
	for _, base := range []impl.Transaction{activeTransaction(), readerOf(marksOf(s)...), readerOf(missingMarks()...)} {
		for _, x := range inEveryState(base) {
			for key := range impl.MaxKeys {
				for created := -2; created <= impl.MaxStamp+2; created++ {
					want, wantOK := values[impl.ReadMark{Key: key, Created: created}]
					if got, ok := impl.ReadValue(s, x, key, created); got != want || ok != wantOK {
						t.Errorf("ReadValue of version %d of key %d = %d, %t, want %d, %t", created, key, got, ok, want, wantOK)
					}
				}
				for _, created := range farInts {
					checkNoValue(t, s, x, key, created)
				}
			}
		}
	}
}

func TestReadValueOfOwnWrites(t *testing.T) {
	s := readStore()
	base := fullTransaction()
	base.Writes = []impl.Write{{Key: 0, Value: 50}, {Key: 1, Value: -1}, {Key: 3, Value: 0}, {Key: 4, Value: 99}}
	for _, x := range inEveryState(base) {
		for _, w := range base.Writes {
			// The value of an own write counts whether there is a version or not.
			for _, created := range append([]int{-1, 0, 1, 2, 3, 4, 5, 7, 9, 999, 1000}, farInts...) {
				if got, ok := impl.ReadValue(s, x, w.Key, created); got != w.Value || !ok {
					t.Errorf("ReadValue of the own write %v and version %d = %d, %t", w, created, got, ok)
				}
			}
		}
		for _, m := range []impl.ReadMark{{Key: 2}, {Key: 5}} {
			if got, ok := impl.ReadValue(s, x, m.Key, m.Created); got != impl.Absent || !ok {
				t.Errorf("ReadValue of the initial version of key %d beside writes of others = %d, %t", m.Key, got, ok)
			}
		}
		if got, ok := impl.ReadValue(s, x, 5, 1); got != 13 || !ok {
			t.Errorf("ReadValue of version 1 of key 5 beside writes of others = %d, %t", got, ok)
		}
		checkNoValue(t, s, x, 2, 1)
		checkNoValue(t, s, x, 5, 2)
	}
}

func TestReadValueOfKeysThatDoNotExist(t *testing.T) {
	for _, x := range append(inEveryState(fullTransaction()), activeTransaction()) {
		for _, key := range append([]int{-1, -6, 6, 7}, farInts...) {
			for _, created := range append([]int{-1, 0, 1, 4, 7, 999, 1000}, farInts...) {
				checkNoValue(t, readStore(), x, key, created)
			}
		}
	}
}

// withSpare returns the transaction with lists that are the beginnings of longer ones, and the transaction with the longer lists.
func withSpare(t impl.Transaction) (part, whole impl.Transaction) {
	whole = t
	whole.Reads = append(slices.Clone(t.Reads), impl.ReadMark{Key: 4, Created: 3}, impl.ReadMark{Key: 1, Created: 2}, impl.ReadMark{Key: -9, Created: 8})
	whole.Writes = append(slices.Clone(t.Writes), impl.Write{Key: 5, Value: 1}, impl.Write{Key: 0, Value: 2})
	part = t
	part.Reads, part.Writes = whole.Reads[:len(t.Reads)], whole.Writes[:len(t.Writes)]
	return part, whole
}

func TestTrackReadLeavesSpareCapacity(t *testing.T) {
	versions := []impl.Version{version(0, -1, 0, 0, 1000), version(4, 5, 3, 3, 4), version(4, 5, 999, 999, 1000), {}}
	transactions := slices.Concat(invalidTransactions(), activeReaders(), inEveryState(fullTransaction()), []impl.Transaction{readerOf(readsOf(2, 60)...)})
	for _, x := range transactions {
		part, whole := withSpare(x)
		before := cloneTransaction(whole)
		for _, key := range []int{-1, 0, 1, 3, 5, 6} {
			for _, v := range versions {
				got, _ := impl.TrackRead(part, key, v)
				other, _ := impl.TrackRead(part, key, v)
				want := cloneTransaction(other)
				checkOwnMemory(t, "TrackRead", whole, got)
				if !sameTransaction(whole, before) || !sameTransaction(part, x) {
					t.Fatalf("TrackRead(%v, %d, %v) changes its argument, or what is behind its lists: %v", x, key, v, whole)
				}
				if !sameTransaction(other, want) {
					t.Fatalf("two results of TrackRead(%v, %d, %v) share memory", x, key, v)
				}
			}
		}
	}
}

func TestStaleReadsAreNewMemory(t *testing.T) {
	s := readStore()
	for _, x := range []impl.Transaction{fullTransaction(), readerOf(marksOf(s)...), readerOf(impl.ReadMark{Key: 0}), readerOf(impl.ReadMark{Key: 2}), activeTransaction(), readerOf(missingMarks()...)} {
		part, whole := withSpare(x)
		before := cloneTransaction(whole)
		got, other := impl.StaleReads(s, part), impl.StaleReads(s, part)
		want := slices.Clone(other)
		for i := range got[:cap(got)] {
			got[:cap(got)][i] = impl.ReadMark{Key: 77, Created: -77}
		}
		if !sameTransaction(whole, before) || !slices.Equal(other, want) || !impl.EqualStores(s, readStore()) {
			t.Errorf("writing into StaleReads of %v changes an argument or another result: %v, %v", x, whole, other)
		}
	}
}

// storeWithSpare returns the store with chains, and a list of them, that are the beginnings of longer ones, and whether all of these are still as they were.
func storeWithSpare(s impl.Store) (part impl.Store, stays func() bool) {
	whole := cloneStore(s)
	whole.Chains = append(whole.Chains, longChain(3))
	for key, l := range whole.Chains {
		whole.Chains[key] = append(l, version(1, 2, 3, 4, 5), version(5, 4, 3, 2, 1))
	}
	before := cloneStore(whole)
	chains := slices.Clone(whole.Chains)
	for key, l := range chains {
		chains[key] = l[:len(l)-2]
	}
	part = impl.Store{Chains: chains[:len(s.Chains)]}
	return part, func() bool {
		return impl.EqualStores(whole, before) && impl.EqualStores(part, s) && impl.EqualChains(chains[len(s.Chains)], longChain(3))
	}
}

func TestReadRuleArgumentsStay(t *testing.T) {
	for _, whole := range append(invalidStores(), readStore(), mixedStore()) {
		s, stays := storeWithSpare(whole)
		for _, x := range append(activeReaders(), fullTransaction(), readerOf(marksOf(readStore())...)) {
			part, longer := withSpare(x)
			longerBefore := cloneTransaction(longer)
			impl.ReadsExist(s, part)
			impl.RefreshHigh(s, part)
			impl.StaleReads(s, part)
			for key := -1; key <= impl.MaxKeys; key++ {
				impl.ReadValue(s, part, key, 4)
			}
			if !sameTransaction(longer, longerBefore) || !sameTransaction(part, x) {
				t.Fatalf("the transaction %v is modified: %v", x, longer)
			}
		}
		if !stays() {
			t.Fatalf("the store is modified: %v", s)
		}
	}
}
