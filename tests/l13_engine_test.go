package tests

import (
	"math"
	"math/rand"
	"slices"
	"testing"

	"loop.example/g01924/impl"
)

// inState returns a transaction without reads and writes in this state, whose Begin is 4; a committed one has the Commit 6.
func inState(id, state int) impl.Transaction {
	x := impl.Transaction{ID: id, Scheme: 1 + id%4, State: state, Begin: 4, Low: 2, High: 1000}
	if state == impl.StateCommitted {
		x.High, x.Commit = 6, 6
	}
	return x
}

// busyEngine returns a valid engine that has something of everything; the last stamp of its store is 12, its own 20.
// The transactions 3, 6 and 8 are active, 1 is committed and 4 is aborted.
func busyEngine() impl.Engine {
	l := []impl.Transaction{inState(1, 2), inState(3, 1), inState(4, 3), inState(6, 1), inState(8, 1)}
	l[0].Reads, l[0].Writes = []impl.ReadMark{{Key: 0}, {Key: 1}}, []impl.Write{{Key: 4, Value: 13}}
	l[1].Reads, l[1].Writes = []impl.ReadMark{{Key: 1, Created: 8}, {Key: 4, Created: 6}}, []impl.Write{{Key: 0, Value: 99}, {Key: 3, Value: -1}}
	l[2].Reads, l[2].Writes = []impl.ReadMark{{Key: 4, Created: 6}}, []impl.Write{{Key: 2, Value: 5}}
	l[3].Reads, l[3].Writes = []impl.ReadMark{{Key: 5}, {Key: 5, Created: 12}}, []impl.Write{{Key: 2, Value: 7}}
	return impl.Engine{Certify: true, Store: windowStore(), Transactions: l, Locks: lockList(0, 3, 2, 6, 3, 3), Waits: waitList(6, 3, 8, 6), Stamp: 20}
}

// engineOf returns an engine with windowStore, these transactions, no locks and waits, and the stamp 20.
func engineOf(l ...impl.Transaction) impl.Engine {
	return impl.Engine{Certify: true, Store: windowStore(), Transactions: l, Stamp: 20}
}

// endedEngine returns a valid engine without active transactions.
func endedEngine() impl.Engine {
	return engineOf(inState(2, 2), inState(5, 3), inState(9, 3))
}

func cloneEngine(e impl.Engine) impl.Engine {
	e.Store = cloneStore(e.Store)
	e.Transactions, e.Locks, e.Waits = slices.Clone(e.Transactions), slices.Clone(e.Locks), slices.Clone(e.Waits)
	for i, x := range e.Transactions {
		e.Transactions[i] = cloneTransaction(x)
	}
	return e
}

// sameEngine compares field by field, so that it does not depend on EqualEngines.
func sameEngine(a, b impl.Engine) bool {
	return a.Certify == b.Certify && a.Stamp == b.Stamp && slices.Equal(a.Locks, b.Locks) && slices.Equal(a.Waits, b.Waits) &&
		slices.EqualFunc(a.Transactions, b.Transactions, sameTransaction) &&
		slices.EqualFunc(a.Store.Chains, b.Store.Chains, func(l, m []impl.Version) bool { return slices.Equal(l, m) })
}

// statesOf has the state of every ID, of the last transaction with it.
func statesOf(l []impl.Transaction) map[int]int {
	states := map[int]int{}
	for _, x := range l {
		states[x.ID] = x.State
	}
	return states
}

// hasVersion looks for a version in any store.
func hasVersion(s impl.Store, m impl.ReadMark) bool {
	return m.Key >= 0 && m.Key < len(s.Chains) && slices.ContainsFunc(s.Chains[m.Key], func(v impl.Version) bool { return v.Created == m.Created })
}

// brokenTransactions returns which conditions of a valid engine its transactions break.
func brokenTransactions(e impl.Engine) []string {
	var broken []string
	add := func(name string, holds bool) {
		if !holds && !slices.Contains(broken, name) {
			broken = append(broken, name)
		}
	}
	add("number", len(e.Transactions) <= 6)
	for i, x := range e.Transactions {
		add("transaction", impl.IsValidTransaction(x))
		add("order", i == 0 || e.Transactions[i-1].ID < x.ID)
		add("begin", x.Begin <= e.Stamp)
		add("commit", x.Commit <= e.Stamp)
		for _, m := range x.Reads {
			add("reads", x.State != 1 || hasVersion(e.Store, m))
		}
	}
	return broken
}

// brokenConditions returns, by the definition, the conditions of a valid engine that do not hold, each one apart from the others.
func brokenConditions(e impl.Engine) []string {
	broken := brokenTransactions(e)
	add := func(name string, holds bool) {
		if !holds && !slices.Contains(broken, name) {
			broken = append(broken, name)
		}
	}
	last := 0
	if impl.IsValidStore(e.Store) {
		last = greatestStamp(e.Store)
	}
	add("store", impl.IsValidStore(e.Store))
	add("locks", areLocks(e.Locks))
	add("waits", areWaits(e.Waits))
	add("stamp", e.Stamp >= last && e.Stamp <= 999)
	states := statesOf(e.Transactions)
	for _, lock := range e.Locks {
		add("owner", states[lock.Owner] == 1)
	}
	for _, w := range e.Waits {
		add("waiting", states[w.ID] == 1)
		add("waited for", states[w.For] == 1)
	}
	return broken
}

// checkEngine expects that the engine breaks exactly these conditions, and that it is valid if there are none.
func checkEngine(t *testing.T, what string, e impl.Engine, broken ...string) {
	t.Helper()
	got := brokenConditions(e)
	slices.Sort(got)
	slices.Sort(broken)
	if !slices.Equal(got, broken) {
		t.Errorf("%s: this test is wrong: %v breaks %q, not %q", what, e, got, broken)
	}
	if impl.IsValidEngine(e) != (len(broken) == 0) {
		t.Errorf("%s: IsValidEngine(%v) = %t although it breaks %q", what, e, impl.IsValidEngine(e), broken)
	}
}

// changed returns the engine after the change of a copy.
func changed(e impl.Engine, change func(e *impl.Engine)) impl.Engine {
	e = cloneEngine(e)
	change(&e)
	return e
}

func TestValidEngines(t *testing.T) {
	for _, e := range []impl.Engine{busyEngine(), endedEngine(), engineOf(), impl.NewEngine(true), impl.NewEngine(false)} {
		checkEngine(t, "valid", e)
		e.Certify = !e.Certify
		checkEngine(t, "with the other Certify", e)
	}
	checkEngine(t, "zero value", impl.Engine{}, "store")
}

func TestEnginesWithInvalidStores(t *testing.T) {
	for _, s := range invalidStores() {
		checkEngine(t, "ended", changed(endedEngine(), func(e *impl.Engine) { e.Store = s }), "store")
		checkEngine(t, "empty", impl.Engine{Store: s}, "store")
		checkEngine(t, "empty", impl.Engine{Store: s, Stamp: 999}, "store")
		checkEngine(t, "active", impl.Engine{Store: s, Stamp: 999, Transactions: []impl.Transaction{inState(3, 1)}, Locks: lockList(0, 3)}, "store")
	}
	for name, s := range validStores() {
		checkEngine(t, name, impl.Engine{Store: s, Stamp: 999})
	}
	for key := range impl.MaxKeys {
		for n, broken := range map[int][]string{49: nil, 50: nil, 51: {"store"}} {
			e := impl.NewEngine(true)
			e.Stamp = 999
			e.Store.Chains[key] = spreadChain(n, 0, 3)
			checkEngine(t, "long chain", e, broken...)
		}
	}
}

func TestEnginesWithInvalidLocks(t *testing.T) {
	for _, c := range []struct {
		locks  []impl.Lock
		broken []string
	}{
		{nil, nil},
		{[]impl.Lock{}, nil},
		{lockList(0, 3), nil},
		{lockList(5, 8), nil},
		{lockList(0, 3, 5, 3), nil},
		{lockList(0, 3, 1, 6, 2, 8, 3, 3, 4, 6, 5, 8), nil},
		{lockList(-1, 3), []string{"locks"}},
		{lockList(6, 3), []string{"locks"}},
		{lockList(math.MinInt, 3), []string{"locks"}},
		{lockList(math.MaxInt, 3), []string{"locks"}},
		{lockList(0, 3, 1, 6, 2, 8, 3, 3, 4, 6, 5, 8, 6, 3), []string{"locks"}},
		{lockList(2, 3, 2, 3), []string{"locks"}},
		{lockList(2, 3, 2, 6), []string{"locks"}},
		{lockList(3, 3, 2, 6), []string{"locks"}},
		{lockList(0, 3, 4, 6, 3, 3), []string{"locks"}},
	} {
		checkEngine(t, "locks", changed(busyEngine(), func(e *impl.Engine) { e.Locks = c.locks }), c.broken...)
	}
	for _, l := range invalidLocks() {
		if e := changed(busyEngine(), func(e *impl.Engine) { e.Locks = l }); impl.IsValidEngine(e) {
			t.Errorf("IsValidEngine with the locks %v", l)
		}
	}
}

func TestEnginesWithInvalidWaits(t *testing.T) {
	for _, c := range []struct {
		waits  []impl.Wait
		broken []string
	}{
		{nil, nil},
		{[]impl.Wait{}, nil},
		{waitList(3, 8), nil},
		{waitList(8, 3), nil},
		{waitList(3, 6, 6, 8), nil},
		{waitList(3, 6, 6, 8, 8, 3), nil},
		{waitList(3, 8, 6, 8), nil},
		{waitList(3, 3), []string{"waits"}},
		{waitList(3, 8, 8, 8), []string{"waits"}},
		{waitList(3, 6, 3, 6), []string{"waits"}},
		{waitList(3, 6, 3, 8), []string{"waits"}},
		{waitList(6, 3, 3, 6), []string{"waits"}},
		{waitList(3, 6, 8, 6, 6, 3), []string{"waits"}},
	} {
		checkEngine(t, "waits", changed(busyEngine(), func(e *impl.Engine) { e.Waits = c.waits }), c.broken...)
	}
	for _, l := range invalidWaits() {
		if e := changed(busyEngine(), func(e *impl.Engine) { e.Waits = l }); impl.IsValidEngine(e) {
			t.Errorf("IsValidEngine with the waits %v", l)
		}
	}
}

// The last stamp of a store is a Created, a Reader of the latest version, a Reader of an older version, 0 or MaxStamp.
func TestStampOfAnEngine(t *testing.T) {
	for _, c := range []struct {
		store impl.Store
		last  int
	}{
		{windowStore(), 12},
		{storeOfText(t, "0:-@0,2,3 1:5@9,9,inf", "0:-@0,4,inf"), 9},
		{storeOfText(t, "0:-@0,2,3 1:5@9,11,inf", "0:-@0,4,inf"), 11},
		{storeOfText(t, "0:-@0,40,3 1:5@9,11,inf", "0:-@0,4,inf"), 40},
		{storeOfText(t, "0:-@0,2,3 1:5@9,9,inf", "0:-@0,4,inf", "0:-@0,0,inf", "0:-@0,0,inf", "0:-@0,0,inf", "0:-@0,33,inf"), 33},
		{storeOfText(t, "0:-@0,2,3 1:5@998,998,inf"), 998},
		{storeOfText(t, "0:-@0,2,3 1:5@999,999,inf"), 999},
		{impl.NewStore(), 0},
	} {
		for _, stamp := range append([]int{-1, c.last - 1, c.last, c.last + 1, 500, 998, 999, 1000, 1001}, farInts...) {
			var broken []string
			if stamp < c.last || stamp > 999 {
				broken = []string{"stamp"}
			}
			checkEngine(t, "stamp", impl.Engine{Store: c.store, Stamp: stamp}, broken...)
		}
	}
	for stamp, broken := range map[int][]string{11: {"stamp"}, 12: nil, 13: nil, 998: nil, 999: nil, 1000: {"stamp"}} {
		checkEngine(t, "busy", changed(busyEngine(), func(e *impl.Engine) { e.Stamp = stamp }), broken...)
		checkEngine(t, "ended", changed(endedEngine(), func(e *impl.Engine) { e.Stamp = stamp }), broken...)
	}
}

func TestNumberOfTransactions(t *testing.T) {
	for _, state := range []int{1, 2, 3} {
		var l []impl.Transaction
		for id := 1; id <= 9; id++ {
			l = append(l, inState(id, state))
		}
		for n := range l {
			var broken []string
			if n > 6 {
				broken = []string{"number"}
			}
			checkEngine(t, "the first ones", engineOf(l[:n]...), broken...)
			checkEngine(t, "the last ones", engineOf(l[len(l)-n:]...), broken...)
		}
	}
	more := changed(busyEngine(), func(e *impl.Engine) { e.Transactions = append(e.Transactions, inState(9, 3)) })
	checkEngine(t, "six", more)
	more.Transactions = slices.Insert(more.Transactions, 1, inState(2, 2))
	checkEngine(t, "seven", more, "number")
	if e := engineOf(slices.Repeat([]impl.Transaction{inState(3, 3)}, 3000)...); impl.IsValidEngine(e) {
		t.Error("IsValidEngine with 3000 transactions")
	}
}

// brokenFields returns changes that make a transaction, whatever its state, invalid but leave its Begin, Commit and reads as they are.
func brokenFields() []func(x *impl.Transaction) {
	return []func(x *impl.Transaction){
		func(x *impl.Transaction) { x.Scheme = 0 },
		func(x *impl.Transaction) { x.Scheme = 5 },
		func(x *impl.Transaction) { x.Begin = -1 },
		func(x *impl.Transaction) { x.Low = -1 },
		func(x *impl.Transaction) { x.Low = 1000 },
		func(x *impl.Transaction) { x.High = 0 },
		func(x *impl.Transaction) { x.High = 1001 },
		func(x *impl.Transaction) { x.Commit = -1 },
		func(x *impl.Transaction) { x.Commit = 6 - x.Commit },
		func(x *impl.Transaction) { x.Reads = []impl.ReadMark{{Key: 1, Created: 8}, {Key: 0, Created: 3}} },
		func(x *impl.Transaction) { x.Reads = []impl.ReadMark{{Key: 1, Created: 8}, {Key: 1, Created: 8}} },
		func(x *impl.Transaction) { x.Writes = []impl.Write{{Key: 6, Value: 1}} },
		func(x *impl.Transaction) { x.Writes = []impl.Write{{Key: 2, Value: 100}} },
		func(x *impl.Transaction) { x.Writes = []impl.Write{{Key: 2, Value: 1}, {Key: 2, Value: 1}} },
	}
}

func TestEnginesWithInvalidTransactions(t *testing.T) {
	for _, change := range brokenFields() {
		for _, state := range []int{1, 2, 3} {
			x := inState(5, state)
			change(&x)
			checkEngine(t, "alone", engineOf(x), "transaction")
			checkEngine(t, "the first one", engineOf(x, inState(6, 1), inState(8, 2)), "transaction")
			checkEngine(t, "between others", engineOf(inState(3, 1), x, inState(8, 2)), "transaction")
			checkEngine(t, "the last one", engineOf(inState(1, 1), inState(4, 2), x), "transaction")
		}
		for at := range busyEngine().Transactions {
			checkEngine(t, "busy", changed(busyEngine(), func(e *impl.Engine) { change(&e.Transactions[at]) }), "transaction")
		}
	}
	for _, state := range []int{-1, 0, 4, 5, math.MinInt, math.MaxInt} {
		checkEngine(t, "state", engineOf(inState(5, state)), "transaction")
		checkEngine(t, "last state", engineOf(inState(3, 1), inState(4, 2), inState(5, state)), "transaction")
	}
	for _, id := range append([]int{-1, 0, 10}, farInts...) {
		for state := 1; state <= 3; state++ {
			checkEngine(t, "ID", engineOf(inState(id, state)), "transaction")
		}
	}
	for _, x := range invalidTransactions() {
		for _, s := range []impl.Store{windowStore(), readStore()} {
			if impl.IsValidEngine(impl.Engine{Store: s, Stamp: 999, Transactions: []impl.Transaction{x}}) {
				t.Errorf("IsValidEngine with the transaction %v", x)
			}
		}
	}
}

func TestLimitsOfTheTransactionsOfAnEngine(t *testing.T) {
	for _, change := range []func(x *impl.Transaction){
		func(x *impl.Transaction) { x.ID = 1 },
		func(x *impl.Transaction) { x.ID = 9 },
		func(x *impl.Transaction) { x.Scheme = 1 },
		func(x *impl.Transaction) { x.Scheme = 4 },
		func(x *impl.Transaction) { x.Begin = 0 },
		func(x *impl.Transaction) { x.Low = 0 },
		func(x *impl.Transaction) { x.Low = 999 },
		func(x *impl.Transaction) { x.High = 1 },
		func(x *impl.Transaction) { x.High = 1000 },
		func(x *impl.Transaction) { x.Reads = marksOf(windowStore()) },
		func(x *impl.Transaction) {
			x.Writes = []impl.Write{{Value: -1}, {Key: 1, Value: 99}, {Key: 2}, {Key: 3}, {Key: 4}, {Key: 5}}
		},
	} {
		for _, state := range []int{1, 2, 3} {
			x := inState(5, state)
			change(&x)
			checkEngine(t, "limit", engineOf(x))
		}
	}
	reader := inState(5, 1)
	e := impl.Engine{Store: chainsOf(slices.Repeat([][]impl.Version{longChain(50)}, 6)...), Stamp: 999, Transactions: []impl.Transaction{reader}}
	e.Transactions[0].Reads = marksOf(e.Store)[:60]
	checkEngine(t, "60 reads", e)
	e.Transactions[0].Reads = marksOf(e.Store)[:61]
	checkEngine(t, "61 reads", e, "transaction")
}

func TestOrderOfTransactions(t *testing.T) {
	for length := 2; length <= 3; length++ {
		n := map[int]int{2: 81, 3: 729}[length]
		for code := range n {
			var l []impl.Transaction
			var ids []int
			for rest := code; len(l) < length; rest /= 9 {
				ids = append(ids, 1+rest%9)
				l = append(l, inState(1+rest%9, 1+(code+rest)%3))
			}
			var broken []string
			if !strictlyAscending(ids) {
				broken = []string{"order"}
			}
			checkEngine(t, "order", engineOf(l...), broken...)
		}
	}
	for _, order := range permutations(6) {
		var l []impl.Transaction
		for _, i := range order {
			l = append(l, inState(3+i, 1+i%3))
		}
		var broken []string
		if !slices.IsSorted(order) {
			broken = []string{"order"}
		}
		checkEngine(t, "six", engineOf(l...), broken...)
	}
	for i := range 5 {
		e := changed(busyEngine(), func(e *impl.Engine) { e.Transactions = slices.Insert(e.Transactions, i, e.Transactions[i]) })
		checkEngine(t, "twice", e, "order")
	}
}

func TestBeginAndCommitOfTransactions(t *testing.T) {
	for _, stamp := range []int{12, 20, 998, 999} {
		for _, state := range []int{1, 2, 3} {
			for at := range 3 {
				l := []impl.Transaction{inState(2, 1), inState(4, 2), inState(7, 3)}
				l[at] = inState(l[at].ID, state)
				for begin, broken := range map[int][]string{0: nil, stamp - 1: nil, stamp: nil, stamp + 1: {"begin"}} {
					e := changed(engineOf(l...), func(e *impl.Engine) { e.Stamp, e.Transactions[at].Begin = stamp, begin })
					if begin > 999 {
						broken = []string{"begin", "transaction"}
					}
					checkEngine(t, "begin", e, broken...)
				}
				for commit, broken := range map[int][]string{1: nil, stamp - 1: nil, stamp: nil, stamp + 1: {"commit"}} {
					if state != impl.StateCommitted {
						continue
					}
					e := changed(engineOf(l...), func(e *impl.Engine) { e.Stamp, e.Transactions[at].Commit = stamp, commit })
					if commit > 999 {
						broken = []string{"commit", "transaction"}
					}
					checkEngine(t, "commit", e, broken...)
				}
			}
		}
	}
	e := changed(endedEngine(), func(e *impl.Engine) { e.Transactions[0].Begin, e.Transactions[0].Commit = 21, 21 })
	checkEngine(t, "both", e, "begin", "commit")
}

// The limits are the engine's stamp, not the last stamp of the store; Begin may be after Commit as far as the engine is concerned.
func TestTransactionsAfterTheLastStampOfTheStore(t *testing.T) {
	for begin := range 22 {
		for commit := 1; commit <= 21; commit++ {
			var broken []string
			if begin == 21 {
				broken = append(broken, "begin")
			}
			if commit == 21 {
				broken = append(broken, "commit")
			}
			x := inState(5, 2)
			x.Begin, x.Commit = begin, commit
			checkEngine(t, "begin and commit", engineOf(inState(1, 1), x), broken...)
		}
	}
}

func TestReadsOfAnEngine(t *testing.T) {
	for _, m := range missingMarks() {
		for _, x := range inEveryState(readerOf(m)) {
			var broken []string
			if x.State == impl.StateActive {
				broken = []string{"reads"}
			}
			for _, others := range [][]impl.Transaction{nil, {inState(1, 1)}, {inState(1, 2), inState(2, 3)}} {
				e := impl.Engine{Store: readStore(), Transactions: append(others, x), Stamp: 20}
				checkEngine(t, "one read", e, broken...)
				e.Transactions = append(e.Transactions, inState(7, 1), inState(8, 2))
				checkEngine(t, "one read, not the last one", e, broken...)
			}
		}
	}
	present := marksOf(readStore())
	for _, m := range missingMarks() {
		l := append(slices.Clone(present), m)
		slices.SortFunc(l, func(a, b impl.ReadMark) int { return 1000*(a.Key-b.Key) + a.Created - b.Created })
		for i, x := range inEveryState(readerOf(l...)) {
			checkEngine(t, "many reads", impl.Engine{Store: readStore(), Transactions: []impl.Transaction{x}, Stamp: 20}, [][]string{{"reads"}, nil, nil}[i]...)
		}
	}
	for _, m := range present {
		for _, x := range inEveryState(readerOf(m)) {
			e := impl.Engine{Store: readStore(), Transactions: []impl.Transaction{x}, Stamp: 20}
			checkEngine(t, "present", e)
			// The same mark, after its version has gone: only an active transaction misses it.
			e.Store.Chains[m.Key] = slices.DeleteFunc(e.Store.Chains[m.Key], func(v impl.Version) bool { return v.Created == m.Created })
			if len(e.Store.Chains[m.Key]) == 0 || !impl.IsValidStore(e.Store) {
				continue
			}
			var broken []string
			if x.State == impl.StateActive {
				broken = []string{"reads"}
			}
			checkEngine(t, "gone", e, broken...)
		}
	}
}

// The transactions are 1 (committed), 3, 6, 8 (active) and 4 (aborted); there are no others.
var brokenUse = map[int]bool{1: true, 2: true, 3: false, 4: true, 5: true, 6: false, 7: true, 8: false, 9: true}

func TestOwnersOfLocks(t *testing.T) {
	for id, wrong := range brokenUse {
		var broken []string
		if wrong {
			broken = []string{"owner"}
		}
		for _, l := range [][]impl.Lock{lockList(0, id), lockList(5, id), lockList(0, id, 3, 3), lockList(0, 6, 3, id), lockList(0, 3, 2, id, 5, 8), lockList(0, id, 1, id, 2, id, 3, id, 4, id, 5, id)} {
			checkEngine(t, "owner", changed(busyEngine(), func(e *impl.Engine) { e.Locks = l }), broken...)
			checkEngine(t, "owner without waits", changed(busyEngine(), func(e *impl.Engine) { e.Locks, e.Waits = l, nil }), broken...)
		}
		checkEngine(t, "no transactions", changed(engineOf(), func(e *impl.Engine) { e.Locks = lockList(2, id) }), "owner")
	}
}

func TestIDsOfWaits(t *testing.T) {
	for id := range brokenUse {
		for owner := range brokenUse {
			if id == owner {
				continue
			}
			var broken []string
			if brokenUse[id] {
				broken = append(broken, "waiting")
			}
			if brokenUse[owner] {
				broken = append(broken, "waited for")
			}
			e := changed(busyEngine(), func(e *impl.Engine) { e.Waits = waitList(id, owner) })
			checkEngine(t, "wait", e, broken...)
			for _, other := range [][2]int{{3, 6}, {6, 8}, {8, 3}} {
				if id != other[0] {
					e.Waits = waitList(id, owner, other[0], other[1])
					slices.SortFunc(e.Waits, func(a, b impl.Wait) int { return a.ID - b.ID })
					checkEngine(t, "two waits", e, broken...)
					e.Locks = nil
					checkEngine(t, "two waits without locks", e, broken...)
				}
			}
		}
	}
	checkEngine(t, "no transactions", changed(engineOf(), func(e *impl.Engine) { e.Waits = waitList(3, 6) }), "waiting", "waited for")
}

// Who has locks and waits becomes a committed or an aborted transaction: the engine is valid only without its locks and waits.
func TestEndsOfTransactionsThatHaveLocksAndWaits(t *testing.T) {
	for i, id := range []int{3, 6, 8} {
		for _, state := range []int{2, 3} {
			e := busyEngine()
			at := []int{1, 3, 4}[i]
			reads := e.Transactions[at].Reads
			e.Transactions[at] = inState(id, state)
			e.Transactions[at].Reads = reads
			if impl.IsValidEngine(e) {
				t.Errorf("IsValidEngine(%v)", e)
			}
			e.Locks = impl.ReleaseLocks(e.Locks, id)
			if impl.IsValidEngine(e) {
				t.Errorf("IsValidEngine(%v)", e)
			}
			e.Waits = impl.ClearWaits(e.Waits, id)
			checkEngine(t, "ended", e)
		}
	}
}

func TestNoFreeTransaction(t *testing.T) {
	for _, ids := range [][]int{{1, 2, 3, 4, 5, 6}, {4, 5, 6, 7, 8, 9}, {1, 3, 4, 6, 8, 9}} {
		for states := range 729 {
			var l []impl.Transaction
			for i, rest := 0, states; i < 6; i, rest = i+1, rest/3 {
				l = append(l, inState(ids[i], 1+rest%3))
			}
			e := engineOf(l...)
			if len(e.Transactions) != impl.MaxTransactions {
				t.Fatal(len(e.Transactions))
			}
			checkEngine(t, "full", e)
			for _, id := range append([]int{-1, 0, 1, 2, 3, 4, 5, 6, 7, 8, 9, 10}, farInts...) {
				if got := impl.FindTransaction(e, id); got != slices.Index(ids, id) {
					t.Errorf("FindTransaction(%v, %d) = %d, want %d", e, id, got, slices.Index(ids, id))
				}
			}
		}
	}
}

func TestNewEngine(t *testing.T) {
	for _, certify := range []bool{false, true} {
		e, other := impl.NewEngine(certify), impl.NewEngine(certify)
		if e.Certify != certify || e.Stamp != 0 || len(e.Transactions) != 0 || len(e.Locks) != 0 || len(e.Waits) != 0 {
			t.Errorf("NewEngine(%t) = %v", certify, e)
		}
		if !impl.EqualStores(e.Store, impl.NewStore()) || !impl.IsValidEngine(e) || !impl.EqualEngines(e, other) {
			t.Errorf("NewEngine(%t) = %v, valid: %t, equal to another one: %t", certify, e, impl.IsValidEngine(e), impl.EqualEngines(e, other))
		}
		e.Transactions = append(e.Transactions, inState(3, 1))
		other.Transactions = append(other.Transactions, inState(4, 1))
		e.Locks, other.Locks = append(e.Locks, lockList(2, 3)...), append(other.Locks, lockList(3, 4)...)
		e.Waits, other.Waits = append(e.Waits, waitList(3, 1)...), append(other.Waits, waitList(4, 1)...)
		if e.Transactions[0].ID != 3 || e.Locks[0] != lockList(2, 3)[0] || e.Waits[0] != waitList(3, 1)[0] {
			t.Errorf("two new engines share memory: %v", e)
		}
		overwriteResults(t, "new engine", e.Store, impl.Transaction{})
		if !impl.EqualStores(other.Store, impl.NewStore()) || !impl.EqualStores(impl.NewEngine(certify).Store, impl.NewStore()) {
			t.Errorf("writing into a new engine changes another one: %v", other)
		}
	}
	if impl.EqualEngines(impl.NewEngine(true), impl.NewEngine(false)) {
		t.Error("both values of Certify are equal")
	}
}

// oddEngines returns engines that are not valid, with IDs that occur twice, descend and do not exist, and with any states.
func oddEngines() []impl.Engine {
	at := func(pairs ...int) impl.Engine {
		e := impl.Engine{Stamp: -5, Locks: lockList(9, 9, 9, 9), Waits: waitList(0, 0)}
		for i := 0; i < len(pairs); i += 2 {
			e.Transactions = append(e.Transactions, impl.Transaction{ID: pairs[i], State: pairs[i+1]})
		}
		return e
	}
	repeated := busyEngine()
	repeated.Transactions = slices.Repeat(repeated.Transactions, 3)
	return []impl.Engine{
		{}, at(), at(0, 0), at(3, 1, 3, 2), at(3, 2, 3, 1), at(5, 1, 4, 1, 3, 1), at(1, 1, 2, 1, 1, 3, 2, 3, 1, 2), at(7, 4, 7, 4, 7, 0, 8, -1, 8, 4, 9, -1),
		at(-3, 1, -3, 2, 0, 3, 10, 1, math.MaxInt, 1, math.MinInt, 1, math.MaxInt, 2, math.MinInt, 0), at(2, math.MinInt, 3, math.MaxInt, 4, math.MaxInt), repeated,
	}
}

func TestFindTransaction(t *testing.T) {
	engines := append(oddEngines(), busyEngine(), endedEngine(), engineOf(), impl.NewEngine(true))
	for _, e := range engines {
		for _, id := range append([]int{-3, -2, -1, 0, 1, 2, 3, 4, 5, 6, 7, 8, 9, 10, 11}, farInts...) {
			want := slices.IndexFunc(e.Transactions, func(x impl.Transaction) bool { return x.ID == id })
			if got := impl.FindTransaction(e, id); got != want {
				t.Errorf("FindTransaction(%v, %d) = %d, want %d", e, id, got, want)
			}
		}
	}
	twice := oddEngines()[6]
	for _, c := range []struct {
		e        impl.Engine
		id, want int
	}{
		{busyEngine(), 1, 0}, {busyEngine(), 3, 1}, {busyEngine(), 4, 2}, {busyEngine(), 6, 3}, {busyEngine(), 8, 4},
		{busyEngine(), 2, -1}, {busyEngine(), 9, -1}, {busyEngine(), 0, -1}, {busyEngine(), -1, -1}, {busyEngine(), -3, -1}, {busyEngine(), math.MaxInt, -1}, {busyEngine(), math.MinInt, -1},
		{impl.NewEngine(false), 1, -1}, {impl.NewEngine(true), 0, -1}, {impl.Engine{}, 0, -1},
		{twice, 1, 0}, {twice, 2, 1}, {twice, 3, -1}, {oddEngines()[8], -3, 0}, {oddEngines()[8], math.MaxInt, 4}, {oddEngines()[8], math.MinInt, 5}, {oddEngines()[2], 0, 0},
	} {
		if got := impl.FindTransaction(c.e, c.id); got != c.want {
			t.Errorf("FindTransaction(%v, %d) = %d, want %d", c.e, c.id, got, c.want)
		}
	}
}

func TestTransactionIDs(t *testing.T) {
	odd := oddEngines()
	for _, c := range []struct {
		e     impl.Engine
		state int
		want  []int
	}{
		{busyEngine(), impl.StateActive, []int{3, 6, 8}}, {busyEngine(), impl.StateCommitted, []int{1}}, {busyEngine(), impl.StateAborted, []int{4}},
		{busyEngine(), 0, nil}, {busyEngine(), 4, nil}, {busyEngine(), -1, nil}, {busyEngine(), math.MaxInt, nil}, {busyEngine(), math.MinInt, nil},
		{endedEngine(), 1, nil}, {endedEngine(), 2, []int{2}}, {endedEngine(), 3, []int{5, 9}},
		{impl.NewEngine(true), 1, nil}, {impl.NewEngine(false), 2, nil}, {engineOf(), 3, nil}, {impl.Engine{}, 0, nil},
		{odd[2], 0, []int{0}}, {odd[3], 1, []int{3}}, {odd[3], 2, []int{3}}, {odd[5], 1, []int{5, 4, 3}}, {odd[6], 1, []int{1, 2}}, {odd[6], 3, []int{1, 2}}, {odd[6], 2, []int{1}},
		{odd[7], 4, []int{7, 7, 8}}, {odd[7], 0, []int{7}}, {odd[7], -1, []int{8, 9}}, {odd[8], 1, []int{-3, 10, math.MaxInt, math.MinInt}}, {odd[8], 0, []int{math.MinInt}},
		{odd[9], math.MinInt, []int{2}}, {odd[9], math.MaxInt, []int{3, 4}}, {odd[10], 1, []int{3, 6, 8, 3, 6, 8, 3, 6, 8}}, {odd[10], 2, []int{1, 1, 1}}, {odd[10], 4, nil},
	} {
		if got := impl.TransactionIDs(c.e, c.state); !slices.Equal(got, c.want) {
			t.Errorf("TransactionIDs(%v, %d) = %v, want %v", c.e, c.state, got, c.want)
		}
	}
	for states := range 729 {
		want := map[int][]int{}
		var l []impl.Transaction
		for i, rest := 0, states; i < 6; i, rest = i+1, rest/3 {
			l = append(l, inState(2+i, 1+rest%3))
			want[1+rest%3] = append(want[1+rest%3], 2+i)
		}
		for state := -1; state <= 4; state++ {
			if got := impl.TransactionIDs(engineOf(l...), state); !slices.Equal(got, want[state]) {
				t.Errorf("TransactionIDs(%v, %d) = %v, want %v", l, state, got, want[state])
			}
		}
	}
}

func TestTransactionIDsAreNewMemory(t *testing.T) {
	for _, e := range append(oddEngines(), busyEngine(), endedEngine()) {
		part, stays := engineWithSpare(e)
		for state := -1; state <= 4; state++ {
			got, other := impl.TransactionIDs(part, state), impl.TransactionIDs(part, state)
			want := slices.Clone(other)
			for i := range got[:cap(got)] {
				got[:cap(got)][i] = -77
			}
			if !stays() || !slices.Equal(other, want) {
				t.Errorf("writing into TransactionIDs of %v changes the engine or another result: %v", part, other)
			}
		}
	}
}

func checkEqualEngines(t *testing.T, what string, a, b impl.Engine, want bool) {
	t.Helper()
	if impl.EqualEngines(a, b) != want || impl.EqualEngines(b, a) != want {
		t.Errorf("%s: EqualEngines of %v and %v: %t, in the other order %t, want %t", what, a, b, impl.EqualEngines(a, b), impl.EqualEngines(b, a), want)
	}
}

// comparedEngines returns valid and other engines, no two of which are equal.
func comparedEngines() []impl.Engine {
	open := busyEngine()
	open.Certify = false
	return append(oddEngines(), busyEngine(), endedEngine(), engineOf(), impl.NewEngine(true), impl.NewEngine(false), open)
}

func TestEqualEngines(t *testing.T) {
	for i, a := range comparedEngines() {
		for j, b := range comparedEngines() {
			checkEqualEngines(t, "all", a, b, i == j)
		}
		checkEqualEngines(t, "copy", a, cloneEngine(a), true)
	}
	empty := impl.Engine{
		Store:        impl.Store{Chains: [][]impl.Version{}},
		Transactions: []impl.Transaction{}, Locks: []impl.Lock{}, Waits: []impl.Wait{},
	}
	checkEqualEngines(t, "nil and empty lists", impl.Engine{}, empty, true)
	empty.Store = impl.NewStore()
	checkEqualEngines(t, "nil and empty lists of new engines", impl.NewEngine(false), empty, true)
	checkEqualEngines(t, "nil and empty lists of transactions", engineOf(impl.Transaction{}), engineOf(impl.Transaction{Reads: []impl.ReadMark{}, Writes: []impl.Write{}}), true)
	noChains, emptyChains := impl.Engine{Store: impl.Store{Chains: make([][]impl.Version, 6)}}, impl.Engine{Store: impl.Store{Chains: slices.Repeat([][]impl.Version{{}}, 6)}}
	checkEqualEngines(t, "nil and empty chains", noChains, emptyChains, true)
	checkEqualEngines(t, "no chains and empty ones", impl.Engine{}, emptyChains, false)
}

// otherEngines returns engines that differ from the given one in one field or one list, by name.
func otherEngines(a impl.Engine) map[string][]impl.Engine {
	others := map[string][]impl.Engine{}
	add := func(name string, change func(e *impl.Engine)) {
		others[name] = append(others[name], changed(a, change))
	}
	add("Certify", func(e *impl.Engine) { e.Certify = !e.Certify })
	add("Stamp", func(e *impl.Engine) { e.Stamp++ })
	add("Stamp", func(e *impl.Engine) { e.Stamp-- })
	for _, l := range otherLists(a.Locks, func(lock *impl.Lock) { lock.Key++ }, func(lock *impl.Lock) { lock.Owner++ }) {
		add("Locks", func(e *impl.Engine) { e.Locks = l })
	}
	for _, l := range otherLists(a.Waits, func(w *impl.Wait) { w.ID++ }, func(w *impl.Wait) { w.For++ }) {
		add("Waits", func(e *impl.Engine) { e.Waits = l })
	}
	for _, change := range transactionChanges() {
		for _, l := range otherLists(a.Transactions, change) {
			add("Transactions", func(e *impl.Engine) { e.Transactions = l })
		}
	}
	for _, chains := range otherLists(a.Store.Chains) {
		add("Store", func(e *impl.Engine) { e.Store.Chains = chains })
	}
	for key, chain := range a.Store.Chains {
		for _, l := range otherLists(chain, versionChanges()...) {
			add("Store", func(e *impl.Engine) { e.Store.Chains[key] = l })
		}
	}
	return others
}

func versionChanges() []func(v *impl.Version) {
	return []func(v *impl.Version){
		func(v *impl.Version) { v.Writer++ },
		func(v *impl.Version) { v.Value++ },
		func(v *impl.Version) { v.Created++ },
		func(v *impl.Version) { v.Reader++ },
		func(v *impl.Version) { v.Successor++ },
	}
}

// transactionChanges returns changes of every field of a transaction and of its marks and writes.
func transactionChanges() []func(x *impl.Transaction) {
	changes := []func(x *impl.Transaction){
		func(x *impl.Transaction) { x.Reads = append(slices.Clone(x.Reads), impl.ReadMark{}) },
		func(x *impl.Transaction) { x.Writes = append(slices.Clone(x.Writes), impl.Write{}) },
	}
	for _, field := range fieldChanges() {
		changes = append(changes, func(x *impl.Transaction) { field.set(x, 777) })
	}
	for i := range 2 {
		changes = append(changes, func(x *impl.Transaction) {
			x.Reads = slices.Concat(x.Reads[:min(i, len(x.Reads))], []impl.ReadMark{{Key: 3, Created: 777}}, x.Reads[min(i+1, len(x.Reads)):])
		}, func(x *impl.Transaction) {
			x.Writes = slices.Concat(x.Writes[:min(i, len(x.Writes))], []impl.Write{{Key: 1, Value: 98}}, x.Writes[min(i+1, len(x.Writes)):])
		})
	}
	return changes
}

func TestEnginesThatDifferInOneField(t *testing.T) {
	names := []string{"Certify", "Store", "Transactions", "Locks", "Waits", "Stamp"}
	for _, a := range comparedEngines() {
		others := otherEngines(a)
		for _, name := range names {
			if len(others[name]) == 0 && len(a.Store.Chains) == 6 {
				t.Errorf("no engine with another %s", name)
			}
			for _, b := range others[name] {
				if sameEngine(a, b) {
					t.Errorf("this test is wrong: another %s of %v is the same", name, a)
				}
				checkEqualEngines(t, "another "+name, a, b, false)
			}
		}
	}
}

func TestEnginesWithExchangedLists(t *testing.T) {
	a := changed(busyEngine(), func(e *impl.Engine) { e.Locks, e.Waits = lockList(1, 2, 3, 4), waitList(5, 6, 7, 8) })
	b := changed(a, func(e *impl.Engine) { e.Locks, e.Waits = lockList(5, 6, 7, 8), waitList(1, 2, 3, 4) })
	checkEqualEngines(t, "locks and waits", a, b, false)
	for _, change := range []func(e *impl.Engine){
		func(e *impl.Engine) { slices.Reverse(e.Locks) },
		func(e *impl.Engine) { slices.Reverse(e.Waits) },
		func(e *impl.Engine) { slices.Reverse(e.Transactions) },
		func(e *impl.Engine) { slices.Reverse(e.Store.Chains) },
		func(e *impl.Engine) { slices.Reverse(e.Store.Chains[4]) },
		func(e *impl.Engine) { slices.Reverse(e.Transactions[1].Reads) },
		func(e *impl.Engine) { slices.Reverse(e.Transactions[1].Writes) },
		func(e *impl.Engine) {
			e.Transactions[1].Reads, e.Transactions[3].Reads = e.Transactions[3].Reads, e.Transactions[1].Reads
		},
	} {
		checkEqualEngines(t, "reversed", a, changed(a, change), false)
	}
}

// anyEngine returns an engine that breaks some conditions, or none.
func anyEngine(random *rand.Rand) impl.Engine {
	e := busyEngine()
	e.Certify, e.Transactions, e.Locks, e.Waits = random.Intn(2) == 0, nil, nil, nil
	e.Stamp = 12 - random.Intn(13)/12 + random.Intn(3)
	marks := append(marksOf(e.Store), impl.ReadMark{Key: 2, Created: 3}, impl.ReadMark{Key: 3, Created: 12})
	for id := 1; id <= 9; id++ {
		if random.Intn(2) == 0 {
			continue
		}
		x := inState(id-random.Intn(40)/39, 1+random.Intn(3))
		x.Begin += random.Intn(10)
		if random.Intn(4) == 0 {
			x.Reads = []impl.ReadMark{marks[random.Intn(len(marks))]}
		}
		e.Transactions = append(e.Transactions, x)
	}
	for key := range 6 {
		if random.Intn(6) == 0 {
			e.Locks = append(e.Locks, impl.Lock{Key: key, Owner: 1 + random.Intn(9)})
		}
	}
	for id := 1; id <= 9; id++ {
		if random.Intn(15) == 0 {
			e.Waits = append(e.Waits, impl.Wait{ID: id, For: 1 + random.Intn(9)})
		}
	}
	return e
}

func TestAnyEngines(t *testing.T) {
	random := rand.New(rand.NewSource(13))
	alone, valid := map[string]int{}, 0
	for range 60000 {
		e := anyEngine(random)
		broken := brokenConditions(e)
		checkEngine(t, "any", e, broken...)
		switch len(broken) {
		case 0:
			valid++
		case 1:
			alone[broken[0]]++
		}
	}
	for _, name := range []string{"waits", "stamp", "number", "order", "begin", "reads", "owner", "waiting", "waited for"} {
		if alone[name] < 5 {
			t.Errorf("%d engines break only %q", alone[name], name)
		}
	}
	if valid < 500 {
		t.Errorf("only %d engines are valid", valid)
	}
}

// engine returns what is active, what has committed last and what was aborted last as an engine, with at most one transaction of each ID.
func (r *run) engine() impl.Engine {
	e := impl.Engine{Certify: true, Store: r.store, Stamp: r.stamp}
	for id := 1; id <= 9 && len(e.Transactions) < 6; id++ {
		candidates := slices.Concat(r.aborted, r.commits)
		if x, ok := r.active[id]; ok {
			candidates = append(candidates, x)
		}
		for _, x := range slices.Backward(candidates) {
			if x.ID == id {
				e.Transactions = append(e.Transactions, x)
				break
			}
		}
	}
	for key, id := range impl.TransactionIDs(e, impl.StateActive) {
		e.Locks = append(e.Locks, impl.Lock{Key: key, Owner: id})
	}
	return e
}

// Whatever transactions read, write, commit and abort, the engine that holds them is valid; with the stamp before the last commit it is not.
func TestEnginesAfterReadsWritesAndCommits(t *testing.T) {
	for seed := range 20 {
		r := &run{t: t, random: rand.New(rand.NewSource(int64(100 + seed))), store: impl.NewStore(), active: map[int]impl.Transaction{}}
		for range 200 {
			r.step(1 + r.random.Intn(9))
			e := r.engine()
			checkEngine(t, "any order", e)
			if e.Stamp--; e.Stamp < greatestStamp(r.store) && impl.IsValidEngine(e) {
				t.Errorf("IsValidEngine(%v)", e)
			}
		}
	}
}

// engineWithSpare returns the engine with lists that are the beginnings of longer ones, and whether all of these are still as they were.
func engineWithSpare(e impl.Engine) (part impl.Engine, stays func() bool) {
	part = e
	store, storeStays := storeWithSpare(e.Store)
	transactions := append(slices.Clone(e.Transactions), inState(7, 1), inState(2, 2))
	locks := append(slices.Clone(e.Locks), lockList(5, 1, 2, 9)...)
	waits := append(slices.Clone(e.Waits), waitList(9, 1, 2, 2)...)
	var longer, longerBefore []impl.Transaction
	for i, x := range transactions {
		short, long := withSpare(x)
		transactions[i] = short
		longer, longerBefore = append(longer, long), append(longerBefore, cloneTransaction(long))
	}
	part.Store, part.Transactions, part.Locks, part.Waits = store, transactions[:len(e.Transactions)], locks[:len(e.Locks)], waits[:len(e.Waits)]
	before := cloneEngine(impl.Engine{Transactions: transactions, Locks: locks, Waits: waits})
	return part, func() bool {
		return storeStays() && sameEngine(impl.Engine{Transactions: transactions, Locks: locks, Waits: waits}, before) &&
			slices.EqualFunc(longer, longerBefore, sameTransaction)
	}
}

func TestEngineArgumentsStay(t *testing.T) {
	engines := comparedEngines()
	for _, s := range invalidStores() {
		engines = append(engines, changed(busyEngine(), func(e *impl.Engine) { e.Store = s }))
	}
	for _, x := range invalidTransactions() {
		engines = append(engines, engineOf(x))
	}
	other, otherStays := engineWithSpare(busyEngine())
	for _, e := range engines {
		part, stays := engineWithSpare(e)
		impl.IsValidEngine(part)
		impl.EqualEngines(part, other)
		impl.EqualEngines(other, part)
		impl.EqualEngines(part, part)
		for _, n := range append([]int{-1, 0, 1, 2, 3, 4, 9, 10}, farInts...) {
			impl.FindTransaction(part, n)
			impl.TransactionIDs(part, n)
		}
		if !stays() || !otherStays() {
			t.Fatalf("an argument is modified: %v", part)
		}
	}
}
