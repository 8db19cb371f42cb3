package tests

import (
	"math"
	"math/rand"
	"slices"
	"testing"

	"loop.example/g01924/impl"
)

// outcome is all that chapter 8 returns for a store, a transaction and a stamp; it is zero where there is no final window.
type outcome struct {
	low, high int
	window    bool
	may       bool
	room      int
	first     impl.ReadMark
	second    impl.ReadMark
	pair      bool
}

func outcomeOf(s impl.Store, x impl.Transaction, stamp int) outcome {
	var o outcome
	o.low, o.high, o.window = impl.FinalWindow(s, x, stamp)
	o.may = impl.MayCommit(s, x, stamp)
	o.room = impl.WindowRoom(s, x, stamp)
	o.first, o.second, o.pair = impl.ExcludingPair(s, x, stamp)
	return o
}

// demand is the number that a version demands of one end of a window.
type demand struct {
	mark impl.ReadMark
	end  int
}

// lowDemands lists what the reads, and then the writes, demand of the low end.
func lowDemands(s impl.Store, x impl.Transaction) []demand {
	var l []demand
	for _, m := range x.Reads {
		l = append(l, demand{m, m.Created})
	}
	for _, w := range x.Writes {
		v := latestIn(s, w.Key)
		l = append(l, demand{impl.ReadMark{Key: w.Key, Created: v.Created}, v.Reader})
	}
	return l
}

// highDemands lists what the reads demand of the high end; ok is false if one of the versions does not exist.
func highDemands(s impl.Store, x impl.Transaction) (l []demand, ok bool) {
	for _, m := range x.Reads {
		for _, v := range s.Chains[m.Key] {
			if v.Created == m.Created {
				l = append(l, demand{m, v.Successor})
			}
		}
	}
	return l, len(l) == len(x.Reads)
}

// expectedOutcome decides by the definition, for a valid store and a valid transaction.
func expectedOutcome(s impl.Store, x impl.Transaction, stamp int) outcome {
	successors, exist := highDemands(s, x)
	if !exist || x.State != impl.StateActive || stamp <= greatestStamp(s) || stamp > 999 {
		return outcome{}
	}
	var low demand
	for _, d := range lowDemands(s, x) {
		if d.end > low.end {
			low = d
		}
	}
	high := demand{end: 1000}
	for _, d := range successors {
		if d.end < high.end {
			high = d
		}
	}
	o := outcome{low: max(x.Low, low.end), high: min(x.High, high.end, stamp), window: true}
	o.may, o.room = o.low < o.high, o.high-o.low
	if low.end >= high.end {
		o.first, o.second, o.pair = low.mark, high.mark, true
	}
	return o
}

// checkOutcome compares with the definition, in which the transaction is valid.
func checkOutcome(t *testing.T, what string, s impl.Store, x impl.Transaction, stamp int) outcome {
	t.Helper()
	before, storeBefore := cloneTransaction(x), cloneStore(s)
	got := outcomeOf(s, x, stamp)
	if want := expectedOutcome(s, x, stamp); got != want {
		t.Errorf("%s: the outcome of %v with the stamp %d in %v is %+v, want %+v", what, x, stamp, s, got, want)
	}
	if got.pair && got.may {
		t.Errorf("%s: %v may commit with the stamp %d in %v although two versions exclude it", what, x, stamp, s)
	}
	if !sameTransaction(x, before) || !impl.EqualStores(s, storeBefore) {
		t.Errorf("%s: the arguments %v and %v are changed to %v and %v", what, storeBefore, before, s, x)
	}
	return got
}

func checkNoWindow(t *testing.T, what string, s impl.Store, x impl.Transaction, stamp int) {
	t.Helper()
	if got := outcomeOf(s, x, stamp); got != (outcome{}) {
		t.Errorf("%s: the outcome of %v with the stamp %d in %v is %+v", what, x, stamp, s, got)
	}
}

// freeStamps returns stamps after the last one of the store, its limits included.
func freeStamps(s impl.Store) []int {
	last := greatestStamp(s)
	stamps := []int{last + 1, last + 2, last + 7, (last + 999) / 2, 998, 999}
	return slices.DeleteFunc(stamps, func(n int) bool { return n <= last || n > 999 })
}

// otherStamps returns the numbers with which nobody can commit.
func otherStamps(s impl.Store) []int {
	last := greatestStamp(s)
	return append([]int{0, -1, last, last - 1, last / 2, 1000, 1001, 1999}, farInts...)
}

// windowStore returns a store with versions of equal and different Created, Reader and Successor; its last stamp is 12.
func windowStore() impl.Store {
	return chainsOf(
		[]impl.Version{version(0, -1, 0, 2, 3), version(1, 10, 3, 4, 1000)},
		[]impl.Version{version(0, -1, 0, 1, 5), version(2, 11, 8, 9, 1000)},
		[]impl.Version{version(0, -1, 0, 2, 3), version(2, 12, 8, 12, 1000)},
		initialChain(12),
		[]impl.Version{version(0, -1, 0, 3, 4), version(3, 13, 6, 6, 8), version(2, 14, 8, 8, 1000)},
		[]impl.Version{version(0, -1, 0, 0, 3), version(4, 15, 12, 12, 1000)},
	)
}

// narrowStore returns a store in which versions demand more of one end than of the other: Successor is at most Created, or far below the next version.
func narrowStore() impl.Store {
	return chainsOf(
		[]impl.Version{version(1, 5, 6, 6, 6), version(2, 6, 7, 8, 1000)},
		[]impl.Version{version(3, 5, 6, 7, 5), version(4, 6, 9, 9, 1000)},
		[]impl.Version{version(5, 5, 6, 7, 7), version(6, 6, 20, 20, 1000)},
		[]impl.Version{version(0, -1, 0, 5, 1), version(7, 7, 5, 5, 1), version(8, 8, 15, 16, 15), version(9, 9, 17, 17, 1000)},
		initialChain(0),
		initialChain(5),
	)
}

func windowStores() []impl.Store {
	return append(writeStores(), windowStore(), narrowStore())
}

func openTransaction(reads []impl.ReadMark, writes ...int) impl.Transaction {
	x, _ := impl.NewTransaction(2, impl.SchemeOptimistic, 1)
	x.Reads = slices.Clone(reads)
	for _, key := range writes {
		x.Writes = append(x.Writes, impl.Write{Key: key, Value: 9 * key})
	}
	return x
}

func TestIsExcluded(t *testing.T) {
	cases := []struct {
		low, high int
		want      bool
	}{
		{6, 6, true}, {6, 7, false}, {7, 6, true}, {6, 5, true}, {5, 6, false}, {6, 20, false}, {20, 6, true},
		{1, 1, true}, {0, 1, false}, {1, 2, false}, {2, 1, true}, {999, 999, true}, {998, 999, false}, {999, 998, true}, {999, 1, true},
		{0, 1000, false}, {1, 1000, false}, {998, 1000, false}, {999, 1000, false},
	}
	for _, c := range cases {
		for _, base := range append(activeReaders(), fullTransaction(), openTransaction(nil)) {
			for _, x := range inEveryState(base) {
				x.Low, x.High = c.low, c.high
				if got := impl.IsExcluded(x); got != c.want {
					t.Errorf("IsExcluded(%v) = %t", x, got)
				}
			}
		}
	}
}

func TestIsExcludedForAllEnds(t *testing.T) {
	x := activeTransaction()
	for low := range 1000 {
		for _, high := range []int{1, low - 2, low - 1, low, low + 1, low + 2, 999, 1000} {
			if high < 1 || high > 1000 {
				continue
			}
			x.Low, x.High = low, high
			if got := impl.IsExcluded(x); got != (high <= low) {
				t.Errorf("IsExcluded with the ends %d and %d = %t", low, high, got)
			}
		}
	}
}

func TestIsExcludedOfInvalidTransactions(t *testing.T) {
	for _, x := range invalidTransactions() {
		if impl.IsExcluded(x) {
			t.Errorf("IsExcluded(%v)", x)
		}
		for _, ends := range [][2]int{{6, 6}, {7, 6}, {6, 7}, {999, 1}, {999, 1000}, {0, 1000}} {
			x.Low, x.High = ends[0], ends[1]
			if impl.IsExcluded(x) && !impl.IsValidTransaction(x) {
				t.Errorf("IsExcluded(%v)", x)
			}
		}
	}
	for _, ends := range [][2]int{{0, 0}, {5, 0}, {999, 0}, {-1, -1}, {-1, -2}, {5, -1}, {1000, 1000}, {1000, 999}, {1000, 1}, {1001, 1001}, {1001, 6}, {math.MaxInt, math.MinInt}, {math.MaxInt, 1}, {0, math.MinInt}} {
		for _, x := range inEveryState(activeTransaction()) {
			x.Low, x.High = ends[0], ends[1]
			if impl.IsExcluded(x) {
				t.Errorf("IsExcluded(%v)", x)
			}
		}
	}
}

func TestFinalWindow(t *testing.T) {
	r := func(marks ...impl.ReadMark) []impl.ReadMark { return marks }
	cases := []struct {
		name              string
		low, high         int
		reads             []impl.ReadMark
		writes            []int
		stamp             int
		wantLow, wantHigh int
	}{
		{"no reads and no writes", 0, 1000, nil, nil, 13, 0, 13},
		{"no reads and no writes, the ends of the transaction", 6, 20, nil, nil, 30, 6, 20},
		{"no reads and no writes, the stamp below High", 6, 20, nil, nil, 19, 6, 19},
		{"the last stamp", 0, 1000, nil, nil, 999, 0, 999},
		{"High is the last stamp", 0, 999, nil, nil, 999, 0, 999},
		{"High is below the last stamp", 0, 998, nil, nil, 999, 0, 998},
		{"High is 1", 0, 1, nil, nil, 999, 0, 1},
		{"Low above RefreshLow by one", 9, 1000, r(impl.ReadMark{Key: 1, Created: 8}), nil, 13, 9, 13},
		{"Low equal to RefreshLow", 8, 1000, r(impl.ReadMark{Key: 1, Created: 8}), nil, 13, 8, 13},
		{"RefreshLow above Low by one", 7, 1000, r(impl.ReadMark{Key: 1, Created: 8}), nil, 13, 8, 13},
		{"Low far above RefreshLow", 700, 1000, r(impl.ReadMark{Key: 1, Created: 8}), nil, 900, 700, 900},
		{"RefreshLow of a write far above Low", 0, 1000, nil, []int{3}, 900, 12, 900},
		{"Low above RefreshLow of a write", 13, 1000, nil, []int{3}, 900, 13, 900},
		{"the read above the write", 0, 1000, r(impl.ReadMark{Key: 1, Created: 8}), []int{0}, 900, 8, 900},
		{"the write above the read", 0, 1000, r(impl.ReadMark{Key: 0, Created: 3}), []int{1}, 900, 9, 900},
		{"RefreshHigh is the least", 0, 9, r(impl.ReadMark{Key: 4, Created: 6}), nil, 13, 6, 8},
		{"RefreshHigh and High are the least", 0, 8, r(impl.ReadMark{Key: 4, Created: 6}), nil, 13, 6, 8},
		{"High is the least", 0, 7, r(impl.ReadMark{Key: 4, Created: 6}), nil, 13, 6, 7},
		{"the stamp is the least", 0, 15, r(impl.ReadMark{Key: 1, Created: 8}), nil, 14, 8, 14},
		{"the stamp and High are the least", 0, 14, r(impl.ReadMark{Key: 1, Created: 8}), nil, 14, 8, 14},
		{"High is below the stamp", 0, 13, r(impl.ReadMark{Key: 1, Created: 8}), nil, 14, 8, 13},
		{"the least of two Successors", 0, 1000, r(impl.ReadMark{Key: 0}, impl.ReadMark{Key: 1}), nil, 14, 0, 3},
		{"the least of two Successors last", 0, 1000, r(impl.ReadMark{Key: 1}, impl.ReadMark{Key: 4}), nil, 14, 0, 4},
		{"equal ends by the reads", 0, 1000, r(impl.ReadMark{Key: 0}, impl.ReadMark{Key: 0, Created: 3}), nil, 14, 3, 3},
		{"a first end above the second one by the reads", 0, 1000, r(impl.ReadMark{Key: 0}, impl.ReadMark{Key: 5, Created: 12}), nil, 14, 12, 3},
		{"a first end above the second one by a write", 0, 1000, r(impl.ReadMark{Key: 1}), []int{3}, 14, 12, 5},
		{"a first end above the second one by Low", 20, 1000, nil, nil, 14, 20, 14},
		{"a first end above the second one by High", 0, 2, r(impl.ReadMark{Key: 4, Created: 8}), nil, 14, 8, 2},
		{"Low above High", 20, 6, nil, nil, 30, 20, 6},
		{"all limits", 999, 1, nil, nil, 999, 999, 1},
	}
	for _, c := range cases {
		x := openTransaction(c.reads, c.writes...)
		x.Low, x.High = c.low, c.high
		got := checkOutcome(t, c.name, windowStore(), x, c.stamp)
		if got.low != c.wantLow || got.high != c.wantHigh || !got.window || got.room != c.wantHigh-c.wantLow || got.may != (c.wantLow < c.wantHigh) {
			t.Errorf("%s: %+v, want the ends %d and %d", c.name, got, c.wantLow, c.wantHigh)
		}
	}
}

// The ends are equal, or one apart in either direction, whatever sets them.
func TestFinalWindowWithEqualEnds(t *testing.T) {
	for _, low := range []int{1, 2, 13, 500, 998} {
		for _, apart := range []int{-1, 0, 1} {
			high := low + apart
			for _, sets := range []string{"Low", "a read", "a write"} {
				for _, setsHigh := range []string{"High", "a read", "the stamp"} {
					s, x, stamp := equalEnds(sets, setsHigh, low, high)
					if high < 1 || stamp <= greatestStamp(s) {
						continue
					}
					got := checkOutcome(t, sets+" and "+setsHigh, s, x, stamp)
					want := outcome{low: low, high: high, window: true, may: apart == 1, room: apart}
					if setsHigh == "a read" && sets != "Low" && apart <= 0 {
						want.first, want.second, want.pair = impl.ReadMark{Key: 1, Created: low}, impl.ReadMark{Key: 0}, true
						if sets == "a write" {
							want.first.Created = 0
						}
					}
					if got != want {
						t.Errorf("%s is %d and %s is %d: %+v, want %+v", sets, low, setsHigh, high, got, want)
					}
				}
			}
		}
	}
}

// equalEnds returns what has a final window with these ends, set as the names say.
func equalEnds(setsLow, setsHigh string, low, high int) (impl.Store, impl.Transaction, int) {
	s, x, stamp := impl.NewStore(), openTransaction(nil), 999
	switch setsHigh {
	case "High":
		x.High = high
	case "a read":
		s.Chains[0][0].Successor = high
		s.Chains[0] = append(s.Chains[0], version(1, 5, max(1, high), max(1, high), 1000))
		x.Reads = []impl.ReadMark{{Key: 0}}
	case "the stamp":
		stamp = high
	}
	switch setsLow {
	case "Low":
		x.Low = low
	case "a read":
		s.Chains[1] = []impl.Version{version(2, 6, low, low, 1000)}
		x.Reads = append(x.Reads, impl.ReadMark{Key: 1, Created: low})
	case "a write":
		s.Chains[1] = initialChain(low)
		x.Writes = []impl.Write{{Key: 1, Value: 7}}
	}
	return s, x, stamp
}

func TestWindowRoom(t *testing.T) {
	for _, c := range []struct{ low, high, stamp, want int }{
		{0, 1000, 999, 999}, {0, 1000, 1, 1}, {0, 1, 1, 1}, {0, 1, 999, 1}, {1, 1, 999, 0}, {1, 1000, 1, 0}, {2, 1, 999, -1}, {999, 1, 999, -998}, {999, 1, 1, -998}, {999, 1000, 999, 0}, {998, 1000, 999, 1}, {999, 1000, 1, -998}, {6, 20, 15, 9}, {6, 20, 25, 14}, {20, 6, 15, -14},
	} {
		x := openTransaction(nil)
		x.Low, x.High = c.low, c.high
		got := checkOutcome(t, "room", impl.NewStore(), x, c.stamp)
		if got.room != c.want || got.may != (c.want > 0) || got.pair {
			t.Errorf("the window from %d to %d with the stamp %d: %+v, want the room %d", c.low, c.high, c.stamp, got, c.want)
		}
	}
}

func TestEveryStamp(t *testing.T) {
	for _, s := range windowStores() {
		last := greatestStamp(s)
		for stamp := -2; stamp <= 1002; stamp++ {
			for _, x := range []impl.Transaction{openTransaction(nil), openTransaction(nil, 1, 4), activeTransaction()} {
				if got := checkOutcome(t, "stamp", s, x, stamp); got.window != (stamp > last && stamp <= 999) {
					t.Errorf("FinalWindow with the stamp %d after %d: %+v", stamp, last, got)
				}
			}
		}
	}
}

func TestStampsThatAreNotFree(t *testing.T) {
	for _, s := range windowStores() {
		for _, base := range append(activeReaders(), openTransaction(nil), openTransaction(marksOf(s)[:1], 0, 5)) {
			for _, stamp := range otherStamps(s) {
				checkNoWindow(t, "stamp", s, base, stamp)
			}
			for _, stamp := range freeStamps(s) {
				checkOutcome(t, "stamp", s, base, stamp)
			}
		}
	}
	full := windowStore()
	full.Chains[3][0].Reader = 999
	almost := windowStore()
	almost.Chains[3][0].Reader = 998
	checkNoWindow(t, "no stamp is left", full, openTransaction(nil), 999)
	checkNoWindow(t, "no stamp is left", full, openTransaction(nil), 1000)
	checkNoWindow(t, "one stamp is left", almost, openTransaction(nil), 998)
	checkNoWindow(t, "one stamp is left", almost, openTransaction(nil), 1000)
	if got := checkOutcome(t, "one stamp is left", almost, openTransaction(nil), 999); !got.may || got.room != 999 {
		t.Errorf("with the last stamp: %+v", got)
	}
	if got := checkOutcome(t, "no stamp is used", impl.NewStore(), openTransaction(nil), 1); !got.may || got.room != 1 {
		t.Errorf("with the first stamp: %+v", got)
	}
}

func TestNoWindowInInvalidStores(t *testing.T) {
	for _, s := range invalidStores() {
		for _, x := range append(activeReaders(), openTransaction(nil), openTransaction(nil, 0, 5), impl.Transaction{}, fullTransaction()) {
			for _, stamp := range []int{-1, 0, 1, 13, 700, 998, 999, 1000} {
				checkNoWindow(t, "invalid store", s, x, stamp)
			}
		}
	}
}

func TestNoWindowOfInvalidTransactions(t *testing.T) {
	for _, s := range []impl.Store{windowStore(), readStore(), impl.NewStore()} {
		for _, x := range invalidTransactions() {
			for _, stamp := range []int{0, 1, 13, 700, 999, 1000} {
				checkNoWindow(t, "invalid transaction", s, x, stamp)
			}
		}
	}
}

// Everything beside the one field would do.
func TestNoWindowIfOneFieldIsInvalid(t *testing.T) {
	for _, reads := range [][]impl.ReadMark{nil, {{Key: 0}, {Key: 1, Created: 8}}} {
		for _, change := range fieldChanges() {
			for _, n := range append([]int{-1, 0, 1, 2, 4, 5, 9, 10, 999, 1000, 1001}, farInts...) {
				x := openTransaction(reads, 2)
				change.set(&x, n)
				if !impl.IsValidTransaction(x) {
					checkNoWindow(t, change.name, windowStore(), x, 13)
				} else {
					checkOutcome(t, change.name, windowStore(), x, 13)
				}
			}
		}
	}
}

func TestNoWindowOfEndedTransactions(t *testing.T) {
	for _, s := range windowStores() {
		for _, reads := range [][]impl.ReadMark{nil, marksOf(s)[:1], marksOf(s)[2:5]} {
			for _, writes := range [][]int{nil, {0}, {1, 2, 5}} {
				states := inEveryState(openTransaction(reads, writes...))
				for _, stamp := range freeStamps(s) {
					if got := checkOutcome(t, "active", s, states[0], stamp); !got.window {
						t.Errorf("FinalWindow of the active %v with the stamp %d in %v: %+v", states[0], stamp, s, got)
					}
					checkNoWindow(t, "committed", s, states[1], stamp)
					checkNoWindow(t, "aborted", s, states[2], stamp)
				}
			}
		}
	}
}

func TestNoWindowIfAReadDoesNotExist(t *testing.T) {
	existing := marksOf(readStore())
	for _, missing := range missingMarks() {
		for _, n := range []int{0, 1, 2, 5, len(existing)} {
			for _, writes := range [][]int{nil, {3}, {0, 1, 2, 3, 4, 5}} {
				x := openTransaction(existing[:n], writes...)
				if got := checkOutcome(t, "all reads exist", readStore(), x, 10); !got.window {
					t.Errorf("FinalWindow of %v: %+v", x, got)
				}
				x.Reads = trackedReads(x.Reads, missing)
				checkNoWindow(t, "a read does not exist", readStore(), x, 10)
			}
		}
	}
}

func TestExcludingPair(t *testing.T) {
	m := func(key, created int) impl.ReadMark { return impl.ReadMark{Key: key, Created: created} }
	cases := []struct {
		name          string
		reads         []impl.ReadMark
		writes        []int
		first, second impl.ReadMark
	}{
		{"the greatest read first", []impl.ReadMark{m(1, 8), m(4, 6), m(5, 0)}, nil, m(1, 8), m(5, 0)},
		{"the greatest read in the middle", []impl.ReadMark{m(0, 0), m(1, 8), m(4, 6)}, nil, m(1, 8), m(0, 0)},
		{"the greatest read last", []impl.ReadMark{m(0, 0), m(4, 6), m(5, 12)}, nil, m(5, 12), m(0, 0)},
		{"the greatest read at several places", []impl.ReadMark{m(0, 0), m(1, 8), m(2, 8), m(4, 8)}, nil, m(1, 8), m(0, 0)},
		{"the greatest read at the last places", []impl.ReadMark{m(0, 3), m(2, 0), m(2, 8), m(4, 8)}, nil, m(2, 8), m(2, 0)},
		{"two versions of one key", []impl.ReadMark{m(0, 0), m(0, 3)}, nil, m(0, 3), m(0, 0)},
		{"the greatest write first", []impl.ReadMark{m(0, 0), m(4, 6)}, []int{2, 4}, m(2, 8), m(0, 0)},
		{"the greatest write in the middle", []impl.ReadMark{m(0, 0), m(4, 6)}, []int{1, 2, 4}, m(2, 8), m(0, 0)},
		{"the greatest write last", []impl.ReadMark{m(0, 0), m(4, 6)}, []int{0, 1, 2}, m(2, 8), m(0, 0)},
		{"the greatest write is an initial version", []impl.ReadMark{m(0, 0), m(4, 6)}, []int{1, 3}, m(3, 0), m(0, 0)},
		{"the greatest write at several places", []impl.ReadMark{m(0, 0), m(4, 6)}, []int{2, 3, 5}, m(2, 8), m(0, 0)},
		{"the greatest write at the last places", []impl.ReadMark{m(0, 0), m(4, 6)}, []int{1, 3, 5}, m(3, 0), m(0, 0)},
		{"a read before a write with the same number", []impl.ReadMark{m(0, 0), m(5, 12)}, []int{2, 3}, m(5, 12), m(0, 0)},
		{"a read before writes of the same number", []impl.ReadMark{m(1, 8), m(4, 0), m(4, 8)}, []int{4}, m(1, 8), m(4, 0)},
		{"a read above the writes", []impl.ReadMark{m(0, 0), m(2, 8)}, []int{0, 4}, m(2, 8), m(0, 0)},
		{"a write above the reads", []impl.ReadMark{m(0, 0), m(2, 8)}, []int{0, 1}, m(1, 8), m(0, 0)},
		{"a write of a version that was read", []impl.ReadMark{m(1, 0), m(1, 8)}, []int{1}, m(1, 8), m(1, 0)},
		{"only writes raise the low end", []impl.ReadMark{m(1, 0)}, []int{0, 1}, m(1, 8), m(1, 0)},
		{"the second mark first", []impl.ReadMark{m(0, 0), m(2, 0), m(5, 0)}, []int{3}, m(3, 0), m(0, 0)},
		{"the second mark in the middle", []impl.ReadMark{m(1, 0), m(2, 0), m(5, 0)}, []int{3}, m(3, 0), m(2, 0)},
		{"the second mark last", []impl.ReadMark{m(1, 0), m(4, 0), m(5, 0)}, []int{3}, m(3, 0), m(5, 0)},
		{"the second mark after open versions", []impl.ReadMark{m(2, 8), m(3, 0), m(4, 6)}, nil, m(2, 8), m(4, 6)},
	}
	for _, c := range cases {
		for _, ends := range [][2]int{{0, 1000}, {0, 1}, {999, 1000}, {999, 1}} {
			for _, stamp := range []int{13, 14, 998, 999} {
				x := openTransaction(c.reads, c.writes...)
				x.Low, x.High = ends[0], ends[1]
				got := checkOutcome(t, c.name, windowStore(), x, stamp)
				if !got.pair || got.first != c.first || got.second != c.second {
					t.Errorf("%s: %+v, want %v and %v", c.name, got, c.first, c.second)
				}
			}
			for _, stamp := range []int{0, 12, 1000, math.MinInt, math.MaxInt} {
				checkNoWindow(t, c.name, windowStore(), openTransaction(c.reads, c.writes...), stamp)
			}
		}
	}
}

// A Successor may be below Created of its own version, so that one read alone excludes its transaction.
func TestExcludingPairOfOneVersion(t *testing.T) {
	for _, c := range []struct {
		read     impl.ReadMark
		excluded bool
	}{
		{impl.ReadMark{Key: 0, Created: 6}, true}, {impl.ReadMark{Key: 1, Created: 6}, true}, {impl.ReadMark{Key: 2, Created: 6}, false}, {impl.ReadMark{Key: 3, Created: 0}, false},
		{impl.ReadMark{Key: 3, Created: 5}, true}, {impl.ReadMark{Key: 3, Created: 15}, true}, {impl.ReadMark{Key: 3, Created: 17}, false},
	} {
		got := checkOutcome(t, "one version", narrowStore(), openTransaction([]impl.ReadMark{c.read}), 21)
		if got.pair != c.excluded || c.excluded && (got.first != c.read || got.second != c.read) {
			t.Errorf("the read of %v: %+v", c.read, got)
		}
	}
}

// What excludes these transactions is no pair of versions, or nothing does.
func TestNoExcludingPair(t *testing.T) {
	cases := []struct {
		name      string
		low, high int
		reads     []impl.ReadMark
		writes    []int
		may       bool
	}{
		{"no reads and no writes", 0, 1000, nil, nil, true},
		{"no reads", 0, 1000, nil, []int{0, 1, 2, 3, 4, 5}, true},
		{"no reads and Low above High", 999, 1, nil, []int{0, 1, 2, 3, 4, 5}, false},
		{"no reads and equal ends", 12, 12, nil, []int{3}, false},
		{"no reads, RefreshLow above High", 0, 11, nil, []int{3}, false},
		{"RefreshLow below RefreshHigh by one", 0, 1000, []impl.ReadMark{{Key: 1, Created: 0}}, []int{0}, true},
		{"RefreshLow below RefreshHigh by two", 0, 1000, []impl.ReadMark{{Key: 4, Created: 6}}, []int{0}, true},
		{"RefreshLow below RefreshHigh, Low above it", 5, 1000, []impl.ReadMark{{Key: 1, Created: 0}}, nil, false},
		{"RefreshLow below RefreshHigh, High below it", 0, 6, []impl.ReadMark{{Key: 4, Created: 6}}, nil, false},
		{"RefreshHigh is Infinity", 0, 1000, []impl.ReadMark{{Key: 1, Created: 8}, {Key: 3}, {Key: 5, Created: 12}}, []int{3, 5}, true},
		{"RefreshHigh is Infinity, Low above the stamp", 999, 1000, []impl.ReadMark{{Key: 1, Created: 8}}, []int{5}, false},
		{"an overwritten version only", 0, 1000, []impl.ReadMark{{Key: 0}}, nil, true},
	}
	for _, c := range cases {
		x := openTransaction(c.reads, c.writes...)
		x.Low, x.High = c.low, c.high
		got := checkOutcome(t, c.name, windowStore(), x, 13)
		if got.pair || !got.window || got.may != c.may {
			t.Errorf("%s: %+v", c.name, got)
		}
	}
}

func TestEveryWindowOfEverySmallSet(t *testing.T) {
	for _, s := range []impl.Store{windowStore(), narrowStore(), readStore()} {
		marks := marksOf(s)
		stamps := []int{greatestStamp(s), greatestStamp(s) + 1, 999}
		for set := range 1 << (len(marks) + 2) {
			var reads []impl.ReadMark
			for i, m := range marks {
				if set>>(i+2)&1 == 1 {
					reads = append(reads, m)
				}
			}
			if len(reads) > 3 {
				continue
			}
			for _, writes := range [][]int{nil, {set % 6}, {set % 3, 3 + set%2, 5}} {
				x := openTransaction(reads, writes...)
				x.Low, x.High = []int{0, 5, 8, 13}[set%4], []int{1000, 6, 9, 14}[set/2%4]
				checkOutcome(t, "set", s, x, stamps[set%3])
				checkOutcome(t, "set", s, x, stamps[1])
			}
		}
	}
}

// Any operations lead to a window in which everything is as the definition says.
func TestWindowsAfterReadsAndWrites(t *testing.T) {
	random := rand.New(rand.NewSource(8))
	counts := map[outcome]int{}
	for _, s := range windowStores() {
		marks := marksOf(s)
		for range 40 {
			x, _ := impl.NewTransaction(1+random.Intn(9), 1+random.Intn(4), random.Intn(1000))
			for range 1 + random.Intn(8) {
				if random.Intn(2) == 0 {
					m := marks[random.Intn(len(marks))]
					v, _ := visibleVersion(s.Chains[m.Key], m.Created)
					x = checkTracked(t, x, m.Key, v)
				} else {
					x = checkWritten(t, s, x, random.Intn(6), random.Intn(101)-1)
				}
				for _, stamp := range freeStamps(s) {
					got := checkOutcome(t, "operations", s, x, stamp)
					if got.may == got.pair || got.pair != impl.IsExcluded(x) {
						t.Errorf("%v in the store that it has seen: %+v", x, got)
					}
					counts[outcome{may: got.may, pair: got.pair}]++
				}
			}
		}
	}
	if len(counts) != 2 {
		t.Errorf("the outcomes are %v", counts)
	}
}

func TestWindowArgumentsStay(t *testing.T) {
	for _, whole := range append(invalidStores(), windowStore(), readStore(), mixedStore()) {
		s, stays := storeWithSpare(whole)
		transactions := slices.Concat(activeReaders(), inEveryState(fullTransaction()), invalidTransactions()[:9], []impl.Transaction{
			openTransaction([]impl.ReadMark{{Key: 1}, {Key: 2}}, 3, 5), openTransaction([]impl.ReadMark{{Key: 0}}), openTransaction(nil, 0, 1, 2, 3, 4, 5), openTransaction([]impl.ReadMark{{Key: 0}, {Key: 0, Created: 4}, {Key: 5, Created: 1}}, 1),
		})
		for _, x := range transactions {
			part, longer := withSpare(x)
			before := cloneTransaction(longer)
			for _, stamp := range []int{0, 9, 10, 12, 13, 700, 999, 1000} {
				impl.IsExcluded(part)
				if first, second := outcomeOf(s, part, stamp), outcomeOf(s, part, stamp); first != second {
					t.Fatalf("two outcomes of %v with the stamp %d in %v are %+v and %+v", x, stamp, s, first, second)
				}
			}
			if !sameTransaction(longer, before) || !sameTransaction(part, x) {
				t.Fatalf("the transaction %v is modified: %v", x, longer)
			}
		}
		if !stays() {
			t.Fatalf("the store is modified: %v", s)
		}
	}
}
