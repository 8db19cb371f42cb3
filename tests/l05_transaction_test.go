package tests

import (
	"math"
	"slices"
	"testing"

	"loop.example/g01924/impl"
)

// farInts are far from every limit; some of them are in range if only their low bits count.
var farInts = []int{math.MinInt, math.MinInt + 1, -1 << 32, -1<<32 + 1, -1000, 1 << 32, 1<<32 + 1, 1<<32 + 3, 1 << 62, math.MaxInt - 1, math.MaxInt}

// fullTransaction returns a valid transaction none of whose fields is zero.
func fullTransaction() impl.Transaction {
	return impl.Transaction{
		ID: 3, Scheme: 2, State: 2, Begin: 5, Low: 6, High: 20, Commit: 9,
		Reads:  []impl.ReadMark{{Key: 0, Created: 4}, {Key: 1, Created: 2}, {Key: 1, Created: 7}, {Key: 5, Created: 1}},
		Writes: []impl.Write{{Key: 1, Value: 50}, {Key: 2, Value: 0}, {Key: 4, Value: -1}},
	}
}

func activeTransaction() impl.Transaction {
	return impl.Transaction{ID: 3, Scheme: 2, State: 1, Begin: 5, Low: 6, High: 20}
}

func cloneTransaction(t impl.Transaction) impl.Transaction {
	t.Reads, t.Writes = slices.Clone(t.Reads), slices.Clone(t.Writes)
	return t
}

// sameTransaction compares field by field, so that it does not depend on EqualTransactions.
func sameTransaction(a, b impl.Transaction) bool {
	return a.ID == b.ID && a.Scheme == b.Scheme && a.State == b.State && a.Begin == b.Begin && a.Low == b.Low && a.High == b.High && a.Commit == b.Commit &&
		slices.Equal(a.Reads, b.Reads) && slices.Equal(a.Writes, b.Writes)
}

// readsOf returns n marks of the key in order, the first one with Created 0.
func readsOf(key, n int) []impl.ReadMark {
	var l []impl.ReadMark
	for created := range n {
		l = append(l, impl.ReadMark{Key: key, Created: created})
	}
	return l
}

// spreadReads returns n marks of each key in order.
func spreadReads(n int) []impl.ReadMark {
	var l []impl.ReadMark
	for key := range 6 {
		l = append(l, readsOf(key, n)...)
	}
	return l
}

// invalidTransactions returns transactions with and without operations in each of which one thing is wrong.
func invalidTransactions() []impl.Transaction {
	transactions := []impl.Transaction{{}}
	for _, change := range fieldChanges() {
		for _, n := range farInts {
			a, b := activeTransaction(), fullTransaction()
			change.set(&a, n)
			change.set(&b, n)
			transactions = append(transactions, a, b)
		}
	}
	for _, l := range invalidReads() {
		t := activeTransaction()
		t.Reads = l
		transactions = append(transactions, t)
	}
	for _, l := range invalidWrites() {
		t := activeTransaction()
		t.Writes = l
		transactions = append(transactions, t)
	}
	return transactions
}

type fieldChange struct {
	name string
	set  func(t *impl.Transaction, n int)
}

func fieldChanges() []fieldChange {
	return []fieldChange{
		{"ID", func(t *impl.Transaction, n int) { t.ID = n }},
		{"Scheme", func(t *impl.Transaction, n int) { t.Scheme = n }},
		{"State", func(t *impl.Transaction, n int) { t.State = n }},
		{"Begin", func(t *impl.Transaction, n int) { t.Begin = n }},
		{"Low", func(t *impl.Transaction, n int) { t.Low = n }},
		{"High", func(t *impl.Transaction, n int) { t.High = n }},
		{"Commit", func(t *impl.Transaction, n int) { t.Commit = n }},
	}
}

func invalidReads() [][]impl.ReadMark {
	l := [][]impl.ReadMark{
		{{Key: -1}}, {{Key: 6}}, {{Key: 0, Created: -1}}, {{Key: 0, Created: 1000}}, {{Key: 5, Created: -1}}, {{Key: 5, Created: 1000}}, {{Key: -1, Created: -1}},
		{{Key: -1}, {Key: 0}}, {{Key: 5}, {Key: 6}}, {{Key: 0, Created: -1}, {Key: 0}}, {{Key: 0, Created: 999}, {Key: 0, Created: 1000}}, {{Key: 0, Created: 999}, {Key: 1, Created: 1000}},
		{{Key: 0}, {Key: 0}}, {{Key: 5, Created: 999}, {Key: 5, Created: 999}}, {{Key: 1, Created: 3}, {Key: 1, Created: 3}, {Key: 2}},
		{{Key: 0}, {Key: 2, Created: 3}, {Key: 2, Created: 3}}, {{Key: 1}, {Key: 0}}, {{Key: 5}, {Key: 0, Created: 999}}, {{Key: 1}, {Key: 0, Created: 1}}, {{Key: 1, Created: 1}, {Key: 0}},
		{{Key: 1, Created: 3}, {Key: 1}}, {{Key: 1, Created: 1}, {Key: 1}}, {{Key: 0}, {Key: 1, Created: 7}, {Key: 1, Created: 6}}, {{Key: 0}, {Key: 2}, {Key: 1}}, {{Key: 0}, {Key: 1}, {Key: 0}},
		readsOf(0, 61), readsOf(5, 61), readsOf(3, 1000), spreadReads(11), append(spreadReads(10), impl.ReadMark{Key: 5, Created: 999}),
	}
	for _, n := range farInts {
		l = append(l, []impl.ReadMark{{Key: n}}, []impl.ReadMark{{Created: n}}, []impl.ReadMark{{Key: 5, Created: n}})
	}
	return l
}

func invalidWrites() [][]impl.Write {
	l := [][]impl.Write{
		{{Key: -1}}, {{Key: 6}}, {{Key: 0, Value: -2}}, {{Key: 0, Value: 100}}, {{Key: 5, Value: -2}}, {{Key: 5, Value: 100}},
		{{Key: -1}, {Key: 0}}, {{Key: 5}, {Key: 6}}, {{Key: 0, Value: -2}, {Key: 1}}, {{Key: 0}, {Key: 1, Value: 100}},
		{{Key: 0}, {Key: 0}}, {{Key: 5, Value: 1}, {Key: 5, Value: 2}}, {{Key: 5, Value: 2}, {Key: 5, Value: 1}}, {{Key: 0}, {Key: 3, Value: 1}, {Key: 3, Value: 2}},
		{{Key: 1}, {Key: 0}}, {{Key: 5, Value: 1}, {Key: 0, Value: 2}}, {{Key: 0}, {Key: 2}, {Key: 1}}, {{Key: 0}, {Key: 1}, {Key: 0}},
		{{Key: 0}, {Key: 1}, {Key: 2}, {Key: 3}, {Key: 4}, {Key: 5}, {Key: 6}}, {{Key: 0}, {Key: 1}, {Key: 2}, {Key: 3}, {Key: 4}, {Key: 5}, {Key: 5}},
		slices.Repeat([]impl.Write{{Key: 2, Value: 3}}, 100),
	}
	for _, n := range farInts {
		l = append(l, []impl.Write{{Key: n}}, []impl.Write{{Value: n}}, []impl.Write{{Key: 5, Value: n}})
	}
	return l
}

func TestTransactionConstants(t *testing.T) {
	if impl.MaxTransactions != 6 {
		t.Error("MaxTransactions", impl.MaxTransactions)
	}
	if impl.SchemeCommitted != 1 || impl.SchemeSnapshot != 2 || impl.SchemeOptimistic != 3 || impl.SchemeOrdered != 4 {
		t.Error("schemes", impl.SchemeCommitted, impl.SchemeSnapshot, impl.SchemeOptimistic, impl.SchemeOrdered)
	}
	if impl.StateActive != 1 || impl.StateCommitted != 2 || impl.StateAborted != 3 {
		t.Error("states", impl.StateActive, impl.StateCommitted, impl.StateAborted)
	}
}

func TestNewTransactions(t *testing.T) {
	for id := 1; id <= impl.MaxTransactionID; id++ {
		for scheme := 1; scheme <= 4; scheme++ {
			for _, begin := range []int{0, 1, 2, 500, 998, impl.MaxStamp} {
				got, ok := impl.NewTransaction(id, scheme, begin)
				want := impl.Transaction{ID: id, Scheme: scheme, State: impl.StateActive, Begin: begin, Low: 0, High: impl.Infinity, Commit: 0}
				if !ok || !sameTransaction(got, want) {
					t.Errorf("NewTransaction(%d, %d, %d) = %v, %t", id, scheme, begin, got, ok)
				}
				if !impl.IsValidTransaction(got) || !impl.IsReadOnly(got) {
					t.Errorf("NewTransaction(%d, %d, %d) is not valid or not read-only", id, scheme, begin)
				}
			}
		}
	}
}

func TestNewTransactionRefuses(t *testing.T) {
	check := func(id, scheme, begin int) {
		t.Helper()
		if got, ok := impl.NewTransaction(id, scheme, begin); ok || !sameTransaction(got, impl.Transaction{}) {
			t.Errorf("NewTransaction(%d, %d, %d) = %v, %t", id, scheme, begin, got, ok)
		}
	}
	for _, id := range append([]int{-1, 0, 10}, farInts...) {
		check(id, 1, 0)
		check(id, 4, 999)
	}
	for _, scheme := range append([]int{-1, 0, 5}, farInts...) {
		check(1, scheme, 0)
		check(9, scheme, 999)
	}
	for _, begin := range append([]int{-1, 1000, 1001}, farInts...) {
		check(1, 1, begin)
		check(9, 4, begin)
	}
	for _, n := range append([]int{-1, 1000}, farInts...) {
		check(n, n, n)
		check(n, n, 0)
	}
	check(0, 0, 0)
	check(10, 5, 1000)
}

func TestTransactionWithoutOperations(t *testing.T) {
	var transactions []impl.Transaction
	for _, reads := range [][]impl.ReadMark{nil, {}, readsOf(2, 3)[:0]} {
		for _, writes := range [][]impl.Write{nil, {}, fullTransaction().Writes[:0]} {
			x := activeTransaction()
			x.Reads, x.Writes = reads, writes
			transactions = append(transactions, x)
		}
	}
	for _, x := range transactions {
		for _, state := range []int{impl.StateActive, impl.StateCommitted, impl.StateAborted} {
			y := x
			y.State = state
			if state == impl.StateCommitted {
				y.Commit = 8
			}
			if !impl.IsValidTransaction(y) || !impl.IsReadOnly(y) {
				t.Errorf("not valid or not read-only: %#v", y)
			}
		}
		for _, key := range append([]int{-2, -1, 0, 1, 2, 3, 4, 5, 6, 7}, farInts...) {
			if got := impl.FindWrite(x, key); got != -1 {
				t.Errorf("FindWrite(%#v, %d) = %d", x, key, got)
			}
			for _, created := range append([]int{-1, 0, 1, 2, 999, 1000}, farInts...) {
				if impl.HasRead(x, impl.ReadMark{Key: key, Created: created}) {
					t.Errorf("HasRead(%#v, {%d %d})", x, key, created)
				}
			}
		}
		for _, y := range transactions {
			if !impl.EqualTransactions(x, y) {
				t.Errorf("not equal: %#v and %#v", x, y)
			}
		}
	}
}

func TestTransactionFieldLimits(t *testing.T) {
	limits := map[string]struct{ valid, invalid []int }{
		"ID":     {[]int{1, 2, 8, 9}, []int{-1, 0, 10, 11}},
		"Scheme": {[]int{1, 2, 3, 4}, []int{-1, 0, 5, 6}},
		"State":  {[]int{1, 3}, []int{-1, 0, 2, 4, 5}}, // Commit is 0: no state of a committed one.
		"Begin":  {[]int{0, 1, 998, 999}, []int{-2, -1, 1000, 1001}},
		"Low":    {[]int{0, 1, 998, 999}, []int{-2, -1, 1000, 1001}},
		"High":   {[]int{1, 2, 999, 1000}, []int{-1, 0, 1001, 1002}},
		"Commit": {[]int{0}, []int{-1, 1, 2, 998, 999, 1000}},
	}
	for _, change := range fieldChanges() {
		limit := limits[change.name]
		for _, base := range []impl.Transaction{activeTransaction(), fullTransaction()} {
			base.State, base.Commit = impl.StateActive, 0
			check := func(n int, want bool) {
				t.Helper()
				x := cloneTransaction(base)
				change.set(&x, n)
				if got := impl.IsValidTransaction(x); got != want {
					t.Errorf("with %s %d IsValidTransaction(%v) = %t", change.name, n, x, got)
				}
				if got := impl.IsReadOnly(x); got != (want && len(base.Writes) == 0) {
					t.Errorf("with %s %d IsReadOnly(%v) = %t", change.name, n, x, got)
				}
			}
			for _, n := range limit.valid {
				check(n, true)
			}
			for _, n := range slices.Concat(limit.invalid, farInts) {
				check(n, false)
			}
		}
	}
}

func TestCommitOfEveryState(t *testing.T) {
	for _, x := range []impl.Transaction{activeTransaction(), fullTransaction()} {
		for state := -1; state <= 5; state++ {
			for commit := -2; commit <= 1002; commit++ {
				x.State, x.Commit = state, commit
				want := state == 2 && commit >= 1 && commit <= 999 || (state == 1 || state == 3) && commit == 0
				if got := impl.IsValidTransaction(x); got != want {
					t.Fatalf("with state %d and commit stamp %d IsValidTransaction is %t", state, commit, got)
				}
			}
			for _, commit := range farInts {
				x.State, x.Commit = state, commit
				if impl.IsValidTransaction(x) {
					t.Fatalf("valid with state %d and commit stamp %d", state, commit)
				}
			}
		}
	}
}

// The document sets no order of Begin, the ends of the window and Commit: only their own limits count.
func TestStampsOfATransactionAreIndependent(t *testing.T) {
	ends := []int{0, 1, 7, 999}
	for _, begin := range ends {
		for _, low := range ends {
			for _, high := range []int{1, 7, 999, 1000} {
				for _, commit := range ends[1:] {
					x := fullTransaction()
					x.Begin, x.Low, x.High, x.Commit = begin, low, high, commit
					if !impl.IsValidTransaction(x) {
						t.Error("not valid:", x)
					}
				}
			}
		}
	}
}

func TestReadLimits(t *testing.T) {
	valid := [][]impl.ReadMark{
		nil, {}, {{Key: 0, Created: 0}}, {{Key: 0, Created: 999}}, {{Key: 5, Created: 0}}, {{Key: 5, Created: 999}},
		{{Key: 0, Created: 0}, {Key: 0, Created: 1}}, {{Key: 0, Created: 0}, {Key: 0, Created: 999}}, {{Key: 0, Created: 999}, {Key: 1, Created: 0}}, {{Key: 0, Created: 3}, {Key: 5, Created: 3}},
		readsOf(0, 59), readsOf(0, 60), readsOf(5, 60), readsOf(3, 60)[1:], spreadReads(1), spreadReads(9), spreadReads(10), spreadReads(10)[1:],
	}
	for i, lists := range [][][]impl.ReadMark{invalidReads(), valid} {
		for _, l := range lists {
			for _, x := range []impl.Transaction{activeTransaction(), fullTransaction()} {
				x.Reads = l
				if got := impl.IsValidTransaction(x); got != (i == 1) {
					t.Errorf("with the reads %v IsValidTransaction is %t", l, got)
				}
			}
		}
	}
}

func TestWriteLimits(t *testing.T) {
	valid := [][]impl.Write{
		nil, {}, {{Key: 0, Value: 0}}, {{Key: 0, Value: -1}}, {{Key: 0, Value: 99}}, {{Key: 5, Value: 0}}, {{Key: 5, Value: -1}}, {{Key: 5, Value: 99}},
		{{Key: 0, Value: 99}, {Key: 1, Value: -1}}, {{Key: 0, Value: 4}, {Key: 5, Value: 4}}, {{Key: 0}, {Key: 1}, {Key: 2}, {Key: 3}, {Key: 4}, {Key: 5}},
	}
	for i, lists := range [][][]impl.Write{invalidWrites(), valid} {
		for _, l := range lists {
			for _, x := range []impl.Transaction{activeTransaction(), fullTransaction()} {
				x.Writes = l
				if got := impl.IsValidTransaction(x); got != (i == 1) {
					t.Errorf("with the writes %v IsValidTransaction is %t", l, got)
				}
			}
		}
	}
}

// strictlyAscending compares every two elements, as the Conventions define the order.
func strictlyAscending(l []int) bool {
	for i := range l {
		for j := range i {
			if l[j] >= l[i] {
				return false
			}
		}
	}
	return true
}

// writeKeys returns the keys of the writes in TestOrderOfShortLists.
func writeKeys(l []int) []int {
	var keys []int
	for _, n := range l {
		keys = append(keys, n%6)
	}
	return keys
}

func TestOrderOfShortLists(t *testing.T) {
	for n := range 9 * 9 * 9 {
		order := []int{n % 9, n / 9 % 9, n / 81}
		for length := range len(order) + 1 {
			var reads []impl.ReadMark
			var writes []impl.Write
			for _, place := range order[:length] {
				// The place of a mark in the order of three keys with three versions each.
				reads = append(reads, impl.ReadMark{Key: place / 3 * 2, Created: place % 3 * 4})
				writes = append(writes, impl.Write{Key: place % 6, Value: 9 - place})
			}
			x, y := activeTransaction(), activeTransaction()
			x.Reads, y.Writes = reads, writes
			if got := impl.IsValidTransaction(x); got != strictlyAscending(order[:length]) {
				t.Fatalf("with the reads %v IsValidTransaction is %t", reads, got)
			}
			if got := impl.IsValidTransaction(y); got != strictlyAscending(writeKeys(order[:length])) {
				t.Fatalf("with the writes %v IsValidTransaction is %t", writes, got)
			}
		}
	}
}

func TestInvalidTransactions(t *testing.T) {
	for _, x := range invalidTransactions() {
		if impl.IsValidTransaction(x) {
			t.Error("valid:", x)
		}
		if impl.IsReadOnly(x) {
			t.Error("read-only:", x)
		}
		if !impl.EqualTransactions(x, cloneTransaction(x)) {
			t.Error("not equal to itself:", x)
		}
		for i, w := range x.Writes {
			first := slices.IndexFunc(x.Writes, func(v impl.Write) bool { return v.Key == w.Key })
			if got := impl.FindWrite(x, w.Key); got != first || got > i {
				t.Errorf("FindWrite(%v, %d) = %d", x, w.Key, got)
			}
		}
		for _, m := range x.Reads {
			if !impl.HasRead(x, m) {
				t.Errorf("HasRead(%v, %v) is false", x, m)
			}
		}
	}
}

func TestFindWrite(t *testing.T) {
	several := impl.Transaction{Writes: []impl.Write{{Key: 4, Value: 1}, {Key: 2, Value: 2}, {Key: 4, Value: 3}, {Key: 2, Value: 2}, {Key: -7, Value: 500}, {Key: math.MaxInt}, {Key: math.MinInt}, {Key: -7}}}
	cases := []struct {
		t    impl.Transaction
		key  int
		want int
	}{
		{fullTransaction(), 0, -1}, {fullTransaction(), 1, 0}, {fullTransaction(), 2, 1}, {fullTransaction(), 3, -1}, {fullTransaction(), 4, 2}, {fullTransaction(), 5, -1},
		{fullTransaction(), -1, -1}, {fullTransaction(), 6, -1}, {fullTransaction(), 50, -1}, {fullTransaction(), 1<<32 + 1, -1}, {fullTransaction(), math.MinInt, -1}, {fullTransaction(), math.MaxInt, -1},
		{several, 4, 0}, {several, 2, 1}, {several, -7, 4}, {several, math.MaxInt, 5}, {several, math.MinInt, 6}, {several, 0, -1}, {several, 1, -1}, {several, 3, -1}, {several, 500, -1},
		{impl.Transaction{}, 0, -1}, {impl.Transaction{Writes: []impl.Write{{}}}, 0, 0}, {impl.Transaction{Writes: []impl.Write{{}}}, 1, -1},
	}
	for _, c := range cases {
		if got := impl.FindWrite(c.t, c.key); got != c.want {
			t.Errorf("FindWrite(%v, %d) = %d, want %d", c.t.Writes, c.key, got, c.want)
		}
	}
}

func TestHasRead(t *testing.T) {
	unordered := impl.Transaction{Reads: []impl.ReadMark{{Key: 5, Created: 3}, {Key: 1, Created: 3}, {Key: 1, Created: 3}, {Key: -4, Created: math.MaxInt}, {Key: math.MinInt, Created: -1}}}
	one := activeTransaction()
	one.Reads = []impl.ReadMark{{Key: 2, Created: 8}}
	long := activeTransaction()
	long.Reads = readsOf(4, 1000)
	cases := []struct {
		t            impl.Transaction
		key, created int
		want         bool
	}{
		{fullTransaction(), 0, 4, true}, {fullTransaction(), 1, 2, true}, {fullTransaction(), 1, 7, true}, {fullTransaction(), 5, 1, true},
		{one, 2, 8, true}, {one, 2, 7, false}, {one, 2, 9, false}, {one, 2, 0, false}, {one, 1, 8, false}, {one, 3, 8, false}, {one, 0, 8, false}, {one, 8, 2, false}, {one, 2, 1<<32 + 8, false}, {one, 1<<32 + 2, 8, false},
		{fullTransaction(), 0, 2, false}, {fullTransaction(), 1, 4, false}, {fullTransaction(), 5, 7, false}, {fullTransaction(), 2, 1, false}, {fullTransaction(), 4, 1, false},
		{fullTransaction(), 0, 0, false}, {fullTransaction(), -1, 4, false}, {fullTransaction(), 6, 4, false}, {fullTransaction(), math.MinInt, math.MinInt, false}, {fullTransaction(), math.MaxInt, math.MaxInt, false},
		{unordered, 5, 3, true}, {unordered, 1, 3, true}, {unordered, -4, math.MaxInt, true}, {unordered, math.MinInt, -1, true}, {unordered, 1, 5, false}, {unordered, -4, -1, false}, {unordered, 0, 0, false},
		{long, 4, 0, true}, {long, 4, 999, true}, {long, 4, 1000, false}, {long, 3, 999, false},
		{impl.Transaction{}, 0, 0, false}, {impl.Transaction{Reads: []impl.ReadMark{{}}}, 0, 0, true}, {impl.Transaction{Reads: []impl.ReadMark{{}}}, 0, 1, false}, {impl.Transaction{Reads: []impl.ReadMark{{}}}, 1, 0, false},
	}
	for _, c := range cases {
		if got := impl.HasRead(c.t, impl.ReadMark{Key: c.key, Created: c.created}); got != c.want {
			t.Errorf("HasRead(%v, {%d %d}) = %t", c.t.Reads, c.key, c.created, got)
		}
	}
}

func TestIsReadOnly(t *testing.T) {
	readsOnly := fullTransaction()
	readsOnly.Writes = nil
	if !impl.IsReadOnly(readsOnly) {
		t.Error("reads alone are not read-only")
	}
	for n := 1; n <= 3; n++ {
		x := fullTransaction()
		x.Writes = x.Writes[:n]
		if impl.IsReadOnly(x) {
			t.Errorf("read-only with %d writes", n)
		}
		x.Reads = nil
		if impl.IsReadOnly(x) {
			t.Errorf("read-only with %d writes and no reads", n)
		}
	}
}

func TestSchemeName(t *testing.T) {
	names := map[int]string{1: "committed", 2: "snapshot", 3: "optimistic", 4: "ordered"}
	for n := -300; n <= 300; n++ {
		if got := impl.SchemeName(n); got != names[n] {
			t.Errorf("SchemeName(%d) = %q, want %q", n, got, names[n])
		}
	}
	for _, n := range farInts {
		if got := impl.SchemeName(n); got != "" {
			t.Errorf("SchemeName(%d) = %q", n, got)
		}
	}
}

func checkUnequal(t *testing.T, what string, a, b impl.Transaction) {
	t.Helper()
	if impl.EqualTransactions(a, b) || impl.EqualTransactions(b, a) {
		t.Errorf("%s: equal: %v and %v", what, a, b)
	}
}

// comparedTransactions returns valid and other transactions, no two of which are equal.
func comparedTransactions() []impl.Transaction {
	unordered := fullTransaction()
	slices.Reverse(unordered.Reads)
	slices.Reverse(unordered.Writes)
	extreme := impl.Transaction{ID: math.MinInt, Scheme: math.MaxInt, State: math.MinInt, Begin: math.MaxInt, Low: math.MinInt, High: math.MaxInt, Commit: math.MinInt, Reads: readsOf(-3, 100), Writes: slices.Repeat([]impl.Write{{Key: 9, Value: 900}}, 70)}
	return []impl.Transaction{{}, activeTransaction(), fullTransaction(), unordered, extreme, {Reads: []impl.ReadMark{{}}}, {Writes: []impl.Write{{}}}}
}

func TestEqualTransactions(t *testing.T) {
	transactions := comparedTransactions()
	for i, a := range transactions {
		for j, b := range comparedTransactions() {
			if got := impl.EqualTransactions(a, b); got != (i == j) {
				t.Errorf("EqualTransactions(%v, %v) = %t", a, b, got)
			}
		}
	}
	for _, a := range transactions {
		for _, change := range fieldChanges() {
			for _, n := range append([]int{-1, 4, 77}, farInts...) {
				b := cloneTransaction(a)
				change.set(&b, n)
				if sameTransaction(a, b) != impl.EqualTransactions(a, b) || sameTransaction(a, b) != impl.EqualTransactions(b, a) {
					t.Errorf("with another %s: EqualTransactions(%v, %v) = %t", change.name, a, b, impl.EqualTransactions(a, b))
				}
			}
		}
	}
}

func TestTransactionsWithExchangedFields(t *testing.T) {
	a := impl.Transaction{ID: 1, Scheme: 2, State: 3, Begin: 4, Low: 5, High: 6, Commit: 7}
	values := []int{1, 2, 3, 4, 5, 6, 7}
	for i, first := range fieldChanges() {
		for j, second := range fieldChanges()[:i] {
			b := a
			first.set(&b, values[j])
			second.set(&b, values[i])
			checkUnequal(t, first.name+" and "+second.name, a, b)
		}
	}
}

// otherLists returns the beginnings and ends of the list, the list with a zero element more, and the list with each change of each element.
func otherLists[T any](l []T, changes ...func(element *T)) [][]T {
	var zero T
	lists := [][]T{append(slices.Clone(l), zero)}
	for i := range l {
		lists = append(lists, l[:i], l[i+1:])
		for _, change := range changes {
			changed := slices.Clone(l)
			change(&changed[i])
			lists = append(lists, changed)
		}
	}
	return lists
}

func TestTransactionsThatDifferInTheirLists(t *testing.T) {
	for _, a := range comparedTransactions() {
		for _, l := range otherLists(a.Reads, func(m *impl.ReadMark) { m.Key++ }, func(m *impl.ReadMark) { m.Created++ }) {
			b := a
			b.Reads = l
			checkUnequal(t, "other reads", a, b)
		}
		for _, l := range otherLists(a.Writes, func(w *impl.Write) { w.Key++ }, func(w *impl.Write) { w.Value++ }) {
			b := a
			b.Writes = l
			checkUnequal(t, "other writes", a, b)
		}
	}
}

func TestNewTransactionsShareNoMemory(t *testing.T) {
	a, _ := impl.NewTransaction(3, 2, 5)
	b, _ := impl.NewTransaction(3, 2, 5)
	a.Reads = append(a.Reads, impl.ReadMark{Key: 1, Created: 2})
	b.Reads = append(b.Reads, impl.ReadMark{Key: 3, Created: 4})
	a.Writes = append(a.Writes, impl.Write{Key: 1, Value: 2})
	b.Writes = append(b.Writes, impl.Write{Key: 3, Value: 4})
	if a.Reads[0] != (impl.ReadMark{Key: 1, Created: 2}) || a.Writes[0] != (impl.Write{Key: 1, Value: 2}) {
		t.Error("writing into a new transaction changes another one:", a)
	}
	if c, _ := impl.NewTransaction(3, 2, 5); len(c.Reads) != 0 || len(c.Writes) != 0 {
		t.Error("writing into new transactions changes the next one:", c)
	}
}

// callAll calls every function of the chapter that takes transactions.
func callAll(a, b impl.Transaction) {
	impl.IsValidTransaction(a)
	impl.IsReadOnly(a)
	impl.EqualTransactions(a, b)
	impl.EqualTransactions(b, a)
	for _, n := range []int{math.MinInt, -1, 0, 1, 4, 5, math.MaxInt} {
		impl.FindWrite(a, n)
		impl.HasRead(a, impl.ReadMark{Key: n, Created: 2})
		impl.HasRead(a, impl.ReadMark{Key: 1, Created: n})
	}
}

func TestTransactionArgumentsStay(t *testing.T) {
	for _, whole := range append(invalidTransactions(), comparedTransactions()...) {
		// The lists are the beginnings of longer ones: what follows must stay, too.
		whole.Reads = append(slices.Clone(whole.Reads), impl.ReadMark{Key: 4, Created: 3}, impl.ReadMark{Key: 1, Created: 2})
		whole.Writes = append(slices.Clone(whole.Writes), impl.Write{Key: 5, Value: 1}, impl.Write{Key: 0, Value: 2})
		before := cloneTransaction(whole)
		part := whole
		part.Reads, part.Writes = whole.Reads[:len(whole.Reads)-2], whole.Writes[:len(whole.Writes)-2]
		partBefore := cloneTransaction(part)
		callAll(part, whole)
		callAll(whole, part)
		if !sameTransaction(whole, before) || !sameTransaction(part, partBefore) {
			t.Error("arguments are modified:", whole, part)
		}
	}
}
