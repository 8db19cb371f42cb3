package tests

import (
	"math/rand"
	"slices"
	"strconv"
	"strings"
	"testing"

	"loop.example/g01924/impl"
)

// isOp decides by the definition.
func isOp(o impl.Op) bool {
	if o.ID < 1 || o.ID > 9 {
		return false
	}
	key := o.Key >= 0 && o.Key <= 5
	switch o.Kind {
	case 1:
		return o.Scheme >= 1 && o.Scheme <= 4 && o.Key == 0 && o.High == 0 && o.Value == 0
	case 2:
		return key && o.Scheme == 0 && o.High == 0 && o.Value == 0
	case 3:
		return key && o.Value >= -1 && o.Value <= 99 && o.Scheme == 0 && o.High == 0
	case 4:
		return key && o.High >= o.Key && o.High <= 5 && o.Scheme == 0 && o.Value == 0
	}
	return (o.Kind == 5 || o.Kind == 6) && o.Scheme == 0 && o.Key == 0 && o.High == 0 && o.Value == 0
}

// expectedStep performs by the definition any operation on any engine.
func expectedStep(e impl.Engine, o impl.Op) (impl.Engine, impl.Step) {
	after := cloneEngine(e)
	at := slices.IndexFunc(e.Transactions, func(x impl.Transaction) bool { return x.ID == o.ID })
	switch {
	case !isOp(o) || len(brokenConditions(e)) > 0:
		return after, impl.Step{Code: 6}
	case o.Kind == 1 && (at >= 0 || len(e.Transactions) >= 6):
		return after, impl.Step{Code: 6}
	case o.Kind == 1:
		after.Transactions = append(after.Transactions, impl.Transaction{ID: o.ID, Scheme: o.Scheme, State: 1, Begin: e.Stamp, High: 1000})
		slices.SortFunc(after.Transactions, func(a, b impl.Transaction) int { return a.ID - b.ID })
		return after, impl.Step{}
	case at < 0 || e.Transactions[at].State != 1:
		return after, impl.Step{Code: 6}
	}
	after.Waits = slices.DeleteFunc(after.Waits, func(w impl.Wait) bool { return w.ID == o.ID })
	step := expectedAction(&after, &after.Transactions[at], o)
	if after.Transactions[at].State != 1 {
		after.Locks = slices.DeleteFunc(after.Locks, func(lock impl.Lock) bool { return lock.Owner == o.ID })
		after.Waits = slices.DeleteFunc(after.Waits, func(w impl.Wait) bool { return w.ID == o.ID || w.For == o.ID })
	}
	return after, step
}

// expectedAction performs an operation other than the first one of an active transaction, but takes no locks and waits from one that ends.
func expectedAction(e *impl.Engine, x *impl.Transaction, o impl.Op) impl.Step {
	var step impl.Step
	switch o.Kind {
	case 2:
		step = expectedReads(e.Store, x, o.Key, o.Key)
	case 3:
		step.Code = expectedWrite(e, x, o)
	case 4:
		step = expectedReads(e.Store, x, o.Key, o.High)
	case 5:
		step.Code = expectedEnd(e, x)
	case 6:
		x.State = 3
	}
	if step.Code >= 2 && step.Code <= 5 {
		x.State = 3
	}
	return step
}

func expectedReads(s impl.Store, x *impl.Transaction, first, last int) impl.Step {
	var values []int
	for key := first; key <= last; key++ {
		if value, ok := valueWritten(*x, key); ok {
			values = append(values, value)
			continue
		}
		v, code := expectedChoice(s, *x, key)
		if code == 0 && len(x.Reads) >= 60 {
			code = 6
		}
		if code != 0 {
			return impl.Step{Code: code}
		}
		x.Reads = trackedReads(x.Reads, impl.ReadMark{Key: key, Created: v.Created})
		x.Low, x.High = max(x.Low, v.Created), min(x.High, v.Successor)
		values = append(values, v.Value)
	}
	return impl.Step{Values: values}
}

func expectedWrite(e *impl.Engine, x *impl.Transaction, o impl.Op) int {
	code := expectedWriteCode(e.Store, e.Locks, *x, o.Key)
	if code == 1 {
		w := waiting{}
		for _, other := range e.Waits {
			w[other.ID] = other.For
		}
		w[o.ID] = impl.LockOwner(e.Locks, o.Key)
		if w.reached()[o.ID][o.ID] {
			return 4
		}
		e.Waits = w.waits()
	}
	if code != 0 {
		return code
	}
	if x.Scheme <= 2 && impl.LockOwner(e.Locks, o.Key) == 0 {
		e.Locks = append(e.Locks, impl.Lock{Key: o.Key, Owner: o.ID})
		slices.SortFunc(e.Locks, func(a, b impl.Lock) int { return a.Key - b.Key })
	}
	x.Writes = trackedWrites(x.Writes, impl.Write{Key: o.Key, Value: o.Value})
	x.Low = max(x.Low, latestIn(e.Store, o.Key).Reader)
	return 0
}

func expectedEnd(e *impl.Engine, x *impl.Transaction) int {
	if code := expectedCommitCode(e.Store, *x); code != 0 {
		return code
	}
	if e.Stamp == 999 {
		return 6
	}
	commit := expectedCommitAnyway
	if e.Certify {
		commit = expectedCommit
	}
	store, y, ok := commit(e.Store, *x, e.Stamp+1)
	if !ok {
		return 5
	}
	e.Store, e.Stamp, *x = store, e.Stamp+1, y
	return 0
}

func sameStep(a, b impl.Step) bool {
	return a.Code == b.Code && slices.Equal(a.Values, b.Values)
}

// checkStep performs the operation and compares with the definition; it expects promise 10 where the engine is valid.
func checkStep(t *testing.T, e impl.Engine, o impl.Op) (impl.Engine, impl.Step) {
	t.Helper()
	want, wantStep := expectedStep(e, o)
	before := cloneEngine(e)
	after, step := impl.StepEngine(e, o)
	if !sameStep(step, wantStep) || !sameEngine(after, want) {
		t.Errorf("StepEngine(%v, %v) = %v, %v, want %v, %v", before, o, after, step, want, wantStep)
	}
	if !sameEngine(e, before) {
		t.Errorf("StepEngine(%v, %v) changes the engine to %v", before, o, e)
	}
	if len(brokenConditions(e)) == 0 {
		checkPromise(t, e, o, after, step)
	}
	return after, step
}

// checkPromise expects of a step from a valid engine that the engine is valid after it, that a transaction that is refused is aborted and that the others stay.
func checkPromise(t *testing.T, before impl.Engine, o impl.Op, after impl.Engine, step impl.Step) {
	t.Helper()
	if broken := brokenConditions(after); len(broken) > 0 || !impl.IsValidEngine(after) {
		t.Errorf("%v leads from the valid %v to %v, which breaks %q", o, before, after, broken)
	}
	withoutID := func(l []impl.Transaction) []impl.Transaction {
		return slices.DeleteFunc(slices.Clone(l), func(x impl.Transaction) bool { return x.ID == o.ID })
	}
	if !slices.EqualFunc(withoutID(before.Transactions), withoutID(after.Transactions), sameTransaction) {
		t.Errorf("%v in %v changes other transactions: %v", o, before, after)
	}
	if step.Code < impl.CodeConflict || step.Code > impl.CodeExcluded {
		return
	}
	if statesOf(after.Transactions)[o.ID] != impl.StateAborted || len(usesOf(after, o.ID)) > 0 {
		t.Errorf("%v in %v is refused with %d, but in %v the transaction is not aborted or still in %q", o, before, step.Code, after, usesOf(after, o.ID))
	}
	if !impl.EqualStores(before.Store, after.Store) || before.Stamp != after.Stamp {
		t.Errorf("%v in %v is refused with %d, but leaves a trace in %v", o, before, step.Code, after)
	}
}

// usesOf returns where the locks and the waits have this ID.
func usesOf(e impl.Engine, id int) []string {
	var uses []string
	for _, lock := range e.Locks {
		if lock.Owner == id {
			uses = append(uses, "the lock of "+strconv.Itoa(lock.Key))
		}
	}
	for _, w := range e.Waits {
		if w.ID == id || w.For == id {
			uses = append(uses, "the wait of "+strconv.Itoa(w.ID))
		}
	}
	return uses
}

// stepText is the document's format of a step, without its limits.
func stepText(s impl.Step) string {
	text := []string{"ok", "blocked", "conflict", "late", "deadlock", "excluded", "invalid"}[s.Code]
	for _, value := range s.Values {
		if value == -1 {
			text += " -"
		} else {
			text += " " + strconv.Itoa(value)
		}
	}
	return text
}

func opsOf(t *testing.T, text string) []impl.Op {
	t.Helper()
	l, ok := impl.ParseOps(text)
	if !ok {
		t.Fatal("no operations:", text)
	}
	return l
}

// perform performs the operations and expects results with these texts, separated by semicolons.
func perform(t *testing.T, e impl.Engine, ops, results string) impl.Engine {
	t.Helper()
	var texts []string
	for _, o := range opsOf(t, ops) {
		var step impl.Step
		e, step = checkStep(t, e, o)
		texts = append(texts, stepText(step))
	}
	if got := strings.Join(texts, ";"); got != results {
		t.Errorf("the results of %s are %s, want %s", ops, got, results)
	}
	return e
}

// transactionOf returns the transaction with this ID, which must exist.
func transactionOf(t *testing.T, e impl.Engine, id int) impl.Transaction {
	t.Helper()
	for _, x := range e.Transactions {
		if x.ID == id {
			return x
		}
	}
	t.Fatalf("no transaction %d in %v", id, e)
	return impl.Transaction{}
}

// checkTransaction expects this transaction in the engine.
func checkTransaction(t *testing.T, what string, e impl.Engine, want impl.Transaction) {
	t.Helper()
	if got := transactionOf(t, e, want.ID); !sameTransaction(got, want) {
		t.Errorf("%s: the transaction is %v, want %v", what, got, want)
	}
}

// checkUse expects these locks and waits, and that the engine is valid.
func checkUse(t *testing.T, what string, e impl.Engine, locks []impl.Lock, waits []impl.Wait) {
	t.Helper()
	if !slices.Equal(e.Locks, locks) || !slices.Equal(e.Waits, waits) || !impl.IsValidEngine(e) {
		t.Errorf("%s: the locks are %v and the waits %v, want %v and %v; valid: %t", what, e.Locks, e.Waits, locks, waits, impl.IsValidEngine(e))
	}
}

func checkTexts(t *testing.T, what string, e impl.Engine, stamp int, chains ...string) {
	t.Helper()
	if e.Stamp != stamp || !slices.Equal(keyTexts(e.Store)[:len(chains)], chains) {
		t.Errorf("%s: the stamp is %d and the chains are %q, want %d and %q", what, e.Stamp, keyTexts(e.Store), stamp, chains)
	}
}

func TestStepConstants(t *testing.T) {
	kinds := [...]int{impl.OpBegin, impl.OpRead, impl.OpWrite, impl.OpScan, impl.OpCommit, impl.OpAbort}
	if kinds != [...]int{1, 2, 3, 4, 5, 6} {
		t.Error(kinds)
	}
}

// opFields are the fields of an operation beside its kind.
var opFields = map[string]func(o *impl.Op) *int{
	"ID":     func(o *impl.Op) *int { return &o.ID },
	"Scheme": func(o *impl.Op) *int { return &o.Scheme },
	"Key":    func(o *impl.Op) *int { return &o.Key },
	"High":   func(o *impl.Op) *int { return &o.High },
	"Value":  func(o *impl.Op) *int { return &o.Value },
}

// usedFields has for each kind valid operations, and the limits of the fields that the kind uses, as far as the others are as in these operations.
var usedFields = []struct {
	o      impl.Op
	limits map[string][2]int
}{
	{impl.Op{Kind: impl.OpBegin, ID: 3, Scheme: 2}, map[string][2]int{"ID": {1, 9}, "Scheme": {1, 4}}},
	{impl.Op{Kind: impl.OpRead, ID: 4, Key: 3}, map[string][2]int{"ID": {1, 9}, "Key": {0, 5}}},
	{impl.Op{Kind: impl.OpWrite, ID: 5, Key: 2, Value: 42}, map[string][2]int{"ID": {1, 9}, "Key": {0, 5}, "Value": {-1, 99}}},
	{impl.Op{Kind: impl.OpScan, ID: 6, Key: 2, High: 4}, map[string][2]int{"ID": {1, 9}, "Key": {0, 4}, "High": {2, 5}}},
	{impl.Op{Kind: impl.OpScan, ID: 6, Key: 5, High: 5}, map[string][2]int{"ID": {1, 9}, "Key": {0, 5}, "High": {5, 5}}},
	{impl.Op{Kind: impl.OpScan, ID: 6}, map[string][2]int{"ID": {1, 9}, "Key": {0, 0}, "High": {0, 5}}},
	{impl.Op{Kind: impl.OpCommit, ID: 7}, map[string][2]int{"ID": {1, 9}}},
	{impl.Op{Kind: impl.OpAbort, ID: 8}, map[string][2]int{"ID": {1, 9}}},
}

func checkOp(t *testing.T, o impl.Op, want bool) {
	t.Helper()
	if impl.IsValidOp(o) != want || isOp(o) != want {
		t.Errorf("IsValidOp(%+v) = %t, by the definition %t, want %t", o, impl.IsValidOp(o), isOp(o), want)
	}
}

func TestLimitsOfOperations(t *testing.T) {
	for _, c := range usedFields {
		for name, field := range opFields {
			limits, used := c.limits[name]
			for _, n := range append([]int{-2, -1, 0, 1, 2, 3, 4, 5, 6, 9, 10, 98, 99, 100}, farInts...) {
				o := c.o
				*field(&o) = n
				checkOp(t, o, used && n >= limits[0] && n <= limits[1] || !used && n == 0)
			}
		}
		for _, kind := range append([]int{0, -1, 7, 8}, farInts...) {
			o := c.o
			o.Kind = kind
			checkOp(t, o, false)
			checkOp(t, impl.Op{Kind: kind, ID: 1}, false)
		}
		for kind := 1; kind <= 6; kind++ {
			o := c.o
			o.Kind = kind
			checkOp(t, o, isOp(o))
		}
	}
	checkOp(t, impl.Op{}, false)
	checkOp(t, impl.Op{Kind: impl.OpScan, ID: 1, Key: 3, High: 3}, true)
	checkOp(t, impl.Op{Kind: impl.OpScan, ID: 1, Key: 3, High: 2}, false)
	checkOp(t, impl.Op{Kind: impl.OpScan, ID: 1, Key: 3, High: impl.MaxKeys - 1}, true)
	checkOp(t, impl.Op{Kind: impl.OpScan, ID: 1, Key: 3, High: impl.MaxKeys}, false)
	checkOp(t, impl.Op{Kind: impl.OpCommit, ID: impl.MaxTransactionID}, true)
	checkOp(t, impl.Op{Kind: impl.OpCommit, ID: impl.MaxTransactionID + 1}, false)
}

// nearOps returns operations of every kind with every combination of numbers at the limits and beyond them.
func nearOps() []impl.Op {
	var l []impl.Op
	for kind := -1; kind <= 7; kind++ {
		for _, id := range []int{-1, 0, 1, 9, 10} {
			for _, scheme := range []int{-1, 0, 1, 4, 5} {
				for _, key := range []int{-1, 0, 1, 5, 6} {
					for _, high := range []int{-1, 0, 1, 5, 6} {
						for _, value := range []int{-2, -1, 0, 99, 100} {
							l = append(l, impl.Op{Kind: kind, ID: id, Scheme: scheme, Key: key, High: high, Value: value})
						}
					}
				}
			}
		}
	}
	return l
}

func TestAllFieldsOfOperations(t *testing.T) {
	valid := 0
	for _, o := range nearOps() {
		checkOp(t, o, isOp(o))
		if isOp(o) {
			valid++
		}
	}
	if valid != 2*(2+3+3*3+6+1+1) {
		t.Error("valid operations:", valid)
	}
}

// fewOps returns a valid operation or two of each kind for every ID.
func fewOps() []impl.Op {
	var l []impl.Op
	for id := 1; id <= 9; id++ {
		l = append(l, impl.Op{Kind: 1, ID: id, Scheme: 1 + id%4}, impl.Op{Kind: 2, ID: id, Key: id % 6}, impl.Op{Kind: 2, ID: id, Key: 4},
			impl.Op{Kind: 3, ID: id, Key: id % 6, Value: 3}, impl.Op{Kind: 3, ID: id, Key: 2, Value: -1}, impl.Op{Kind: 4, ID: id, High: 5}, impl.Op{Kind: 4, ID: id, Key: id % 6, High: 5},
			impl.Op{Kind: 5, ID: id}, impl.Op{Kind: 6, ID: id})
	}
	return l
}

// checkInvalidStep expects that the engine stays as it is.
func checkInvalidStep(t *testing.T, what string, e impl.Engine, o impl.Op) {
	t.Helper()
	before := cloneEngine(e)
	after, step := impl.StepEngine(e, o)
	if step.Code != impl.CodeInvalid || len(step.Values) != 0 || !sameEngine(after, before) || !sameEngine(e, before) {
		t.Errorf("%s: StepEngine(%v, %v) = %v, %v; the argument is %v now", what, before, o, after, step, e)
	}
}

func invalidEngines() []impl.Engine {
	engines := append(oddEngines(), impl.Engine{})
	add := func(change func(e *impl.Engine)) {
		engines = append(engines, changed(busyEngine(), change))
	}
	for _, s := range invalidStores() {
		add(func(e *impl.Engine) { e.Store = s })
	}
	for _, l := range invalidLocks() {
		add(func(e *impl.Engine) { e.Locks = l })
	}
	for _, l := range invalidWaits() {
		add(func(e *impl.Engine) { e.Waits = l })
	}
	for _, change := range brokenFields() {
		for i := range 5 {
			add(func(e *impl.Engine) { change(&e.Transactions[i]) })
		}
	}
	add(func(e *impl.Engine) { e.Stamp = 11 })
	add(func(e *impl.Engine) { e.Stamp = 1000 })
	add(func(e *impl.Engine) { e.Transactions = append(e.Transactions, inState(9, 1), inState(10, 1)) })
	add(func(e *impl.Engine) { slices.Reverse(e.Transactions) })
	add(func(e *impl.Engine) { e.Transactions[0].Commit = 21 })
	add(func(e *impl.Engine) { e.Transactions[4].Begin = 21 })
	add(func(e *impl.Engine) { e.Transactions[1].Reads[0].Created = 7 })
	add(func(e *impl.Engine) { e.Locks[0].Owner = 1 })
	add(func(e *impl.Engine) { e.Waits[0].For = 4 })
	add(func(e *impl.Engine) { e.Waits[1].ID = 9 })
	return engines
}

func TestStepsOfInvalidEngines(t *testing.T) {
	for _, e := range invalidEngines() {
		if len(brokenConditions(e)) == 0 {
			t.Fatalf("this test is wrong: %v is valid", e)
		}
		for _, o := range fewOps() {
			checkInvalidStep(t, "engine", e, o)
		}
		checkInvalidStep(t, "engine and operation", e, impl.Op{})
	}
}

func TestInvalidOperations(t *testing.T) {
	for _, o := range nearOps() {
		if o.ID == 9 {
			o.ID = 8 // which is active
		}
		if !isOp(o) {
			checkInvalidStep(t, "operation", busyEngine(), o)
		}
	}
	for _, c := range usedFields {
		for _, n := range append([]int{-2, 10, 100}, farInts...) {
			for _, field := range opFields {
				o := c.o
				*field(&o) = n
				if !isOp(o) {
					checkInvalidStep(t, "far", busyEngine(), o)
				}
			}
		}
	}
}

// In busyEngine 3, 6 and 8 are active, 1 is committed and 4 aborted; there are no others.
func TestOperationsOfWrongTransactions(t *testing.T) {
	for _, o := range fewOps() {
		active := slices.Contains([]int{3, 6, 8}, o.ID)
		exists := active || o.ID == 1 || o.ID == 4
		if o.Kind == impl.OpBegin && exists || o.Kind != impl.OpBegin && !active {
			checkInvalidStep(t, "wrong transaction", busyEngine(), o)
		}
		checkStep(t, busyEngine(), o)
	}
	for states := range 729 {
		var l []impl.Transaction
		for i, rest := 0, states; i < 6; i, rest = i+1, rest/3 {
			l = append(l, inState(2+i, 1+rest%3))
		}
		full := engineOf(l...)
		for _, id := range []int{1, 2, 7, 8, 9} {
			checkInvalidStep(t, "no free transaction", full, impl.Op{Kind: impl.OpBegin, ID: id, Scheme: 3})
		}
		free := engineOf(l[1:]...)
		if _, step := checkStep(t, free, impl.Op{Kind: impl.OpBegin, ID: 8, Scheme: 3}); step.Code != impl.CodeOk {
			t.Errorf("the sixth transaction cannot begin in %v: %v", free, step)
		}
	}
}

func TestBeginSteps(t *testing.T) {
	for _, scheme := range schemes {
		for _, stamp := range []int{0, 1, 500, 998, 999} {
			e := impl.NewEngine(stamp%2 == 0)
			e.Stamp = stamp
			for _, id := range []int{1, 5, 9} {
				after, step := checkStep(t, e, impl.Op{Kind: impl.OpBegin, ID: id, Scheme: scheme})
				if step.Code != impl.CodeOk || len(step.Values) != 0 || len(after.Transactions) != 1 {
					t.Errorf("the begin of %d with the scheme %d at %d: %v, %v", id, scheme, stamp, after, step)
				}
				checkTransaction(t, "begin", after, impl.Transaction{ID: id, Scheme: scheme, State: impl.StateActive, Begin: stamp, High: impl.Infinity})
			}
		}
	}
	for id, want := range map[int][]int{2: {1, 2, 3, 4, 6, 8}, 5: {1, 3, 4, 5, 6, 8}, 7: {1, 3, 4, 6, 7, 8}, 9: {1, 3, 4, 6, 8, 9}} {
		before := busyEngine()
		e, _ := checkStep(t, before, impl.Op{Kind: impl.OpBegin, ID: id, Scheme: 4})
		var ids []int
		for _, x := range e.Transactions {
			ids = append(ids, x.ID)
		}
		if !slices.Equal(ids, want) {
			t.Errorf("after the begin of %d the transactions are %v", id, ids)
		}
		checkUse(t, "begin", e, before.Locks, before.Waits)
	}
	for _, order := range permutations(6) {
		e := impl.NewEngine(true)
		for _, i := range order {
			e, _ = checkStep(t, e, impl.Op{Kind: impl.OpBegin, ID: 3 + i, Scheme: 1 + i%4})
		}
		if got := impl.TransactionIDs(e, impl.StateActive); !slices.Equal(got, []int{3, 4, 5, 6, 7, 8}) {
			t.Errorf("after begins in the order %v: %v", order, got)
		}
	}
}

// busyRead returns busyEngine with a wait of 3, so that 3, 6 and 8 wait.
func busyRead() impl.Engine {
	return changed(busyEngine(), func(e *impl.Engine) { e.Waits = waitList(3, 8, 6, 3) })
}

func TestReadOfOwnWrites(t *testing.T) {
	for _, scheme := range schemes {
		for key, value := range map[int]int{0: 99, 3: -1} {
			before := changed(busyRead(), func(e *impl.Engine) { e.Transactions[1].Scheme, e.Transactions[1].Begin = scheme, 0 })
			e, step := checkStep(t, before, impl.Op{Kind: impl.OpRead, ID: 3, Key: key})
			if !sameStep(step, impl.Step{Values: []int{value}}) {
				t.Errorf("the read of the own write of %d: %v", key, step)
			}
			checkTransaction(t, "own write", e, before.Transactions[1])
			checkUse(t, "own write", e, before.Locks, waitList(6, 3))
		}
	}
	// A transaction that has 60 reads still reads what it has written.
	full := changed(fullReader(60), func(e *impl.Engine) { e.Transactions[0].Writes = []impl.Write{{Key: 5, Value: 7}} })
	if _, step := checkStep(t, full, impl.Op{Kind: impl.OpRead, ID: 5, Key: 5}); !sameStep(step, impl.Step{Values: []int{7}}) {
		t.Errorf("the own write with 60 reads: %v", step)
	}
}

// fullReader returns an engine whose transaction 5 has n reads, of the first versions of six chains of 50, and waits for 7.
func fullReader(n int) impl.Engine {
	e := impl.Engine{Certify: true, Store: chainsOf(slices.Repeat([][]impl.Version{longChain(50)}, 6)...), Stamp: 60}
	x, other := begun(impl.SchemeOptimistic, 50), begun(impl.SchemeCommitted, 50)
	x.ID, other.ID = 5, 7
	x.Reads = marksOf(e.Store)[:n]
	e.Transactions, e.Waits = []impl.Transaction{x, other}, waitList(5, 7)
	e.Store = cloneStore(e.Store)
	return e
}

// With 60 reads there is no further one, not even of a version that is read already; the transaction stays active, without its wait.
func TestReadsBeyondTheLimit(t *testing.T) {
	for _, key := range []int{0, 1, 3, 5} {
		before := fullReader(60)
		e, step := checkStep(t, before, impl.Op{Kind: impl.OpRead, ID: 5, Key: key})
		if !sameStep(step, impl.Step{Code: impl.CodeInvalid}) {
			t.Errorf("the read of %d after 60 reads: %v", key, step)
		}
		checkTransaction(t, "60 reads", e, before.Transactions[0])
		checkUse(t, "60 reads", e, nil, nil)
		e, step = checkStep(t, fullReader(59), impl.Op{Kind: impl.OpRead, ID: 5, Key: key})
		if step.Code != impl.CodeOk || len(transactionOf(t, e, 5).Reads) < 59 {
			t.Errorf("the read of %d after 59 reads: %v, %v", key, e, step)
		}
	}
	for n, want := range map[int]string{54: "ok", 55: "ok", 56: "invalid", 58: "invalid", 60: "invalid"} {
		e, step := checkStep(t, fullReader(n), impl.Op{Kind: impl.OpScan, ID: 5, High: 5})
		x := transactionOf(t, e, 5)
		// The last version of key 0 is among the reads already.
		if impl.CodeName(step.Code) != want || x.State != impl.StateActive || len(x.Reads) > 60 || want == "invalid" && (len(x.Reads) != 60 || len(step.Values) != 0) {
			t.Errorf("the scan after %d reads: %v, %v", n, step, x)
		}
	}
}

func TestReadSteps(t *testing.T) {
	e := engineOf()
	e.Store = storeOfText(t, "0:-@0,1,2 1:5@2,4,6 2:6@7,8,inf", "0:-@0,9,inf", "1:7@4,5,inf", "0:-@0,3,7 1:8@7,7,8 2:9@8,8,inf")
	e.Stamp = 20
	for _, c := range []struct {
		scheme, begin, key int
		result             string
		low, high, created int
	}{
		{impl.SchemeSnapshot, 0, 0, "ok -", 0, 2, 0}, {impl.SchemeSnapshot, 1, 0, "ok -", 0, 2, 0}, {impl.SchemeSnapshot, 2, 0, "ok 5", 2, 6, 2}, {impl.SchemeSnapshot, 6, 0, "ok 5", 2, 6, 2},
		{impl.SchemeSnapshot, 7, 0, "ok 6", 7, 1000, 7}, {impl.SchemeSnapshot, 20, 0, "ok 6", 7, 1000, 7}, {impl.SchemeSnapshot, 0, 1, "ok -", 0, 1000, 0},
		{impl.SchemeSnapshot, 3, 2, "late", 0, 1000, -1}, {impl.SchemeSnapshot, 4, 2, "ok 7", 4, 1000, 4}, {impl.SchemeSnapshot, 7, 3, "ok 8", 7, 8, 7}, {impl.SchemeSnapshot, 8, 3, "ok 9", 8, 1000, 8},
		{impl.SchemeCommitted, 0, 0, "ok 6", 7, 1000, 7}, {impl.SchemeCommitted, 7, 3, "ok 9", 8, 1000, 8}, {impl.SchemeCommitted, 0, 2, "ok 7", 4, 1000, 4},
		{impl.SchemeOptimistic, 0, 0, "ok 6", 7, 1000, 7}, {impl.SchemeOptimistic, 3, 2, "ok 7", 4, 1000, 4},
		{impl.SchemeOrdered, 6, 0, "late", 0, 1000, -1}, {impl.SchemeOrdered, 7, 0, "ok 6", 7, 1000, 7}, {impl.SchemeOrdered, 8, 0, "ok 6", 7, 1000, 7}, {impl.SchemeOrdered, 0, 1, "ok -", 0, 1000, 0},
		{impl.SchemeOrdered, 3, 2, "late", 0, 1000, -1}, {impl.SchemeOrdered, 7, 3, "late", 0, 1000, -1}, {impl.SchemeOrdered, 8, 3, "ok 9", 8, 1000, 8},
	} {
		other := inState(6, 1)
		e.Transactions = []impl.Transaction{begun(c.scheme, c.begin), other}
		e.Locks, e.Waits = lockList(2, 6, 4, 3), waitList(3, 6, 6, 3)
		text := "r3 " + strconv.Itoa(c.key)
		after := perform(t, e, text, c.result)
		want := begun(c.scheme, c.begin)
		want.Low, want.High = c.low, c.high
		if c.created < 0 {
			want.State = impl.StateAborted
			checkUse(t, text, after, lockList(2, 6), nil)
		} else {
			want.Reads = []impl.ReadMark{{Key: c.key, Created: c.created}}
			checkUse(t, text, after, e.Locks, waitList(6, 3))
			// The second read of a version changes nothing.
			checkTransaction(t, "again", perform(t, after, text, c.result), want)
		}
		checkTransaction(t, text, after, want)
		checkTransaction(t, text, after, other)
	}
}

func TestScanSteps(t *testing.T) {
	e := engineOf(inState(3, 1), inState(5, 1))
	e.Store = storeOfText(t, "0:-@0,1,3 1:5@3,4,inf", "0:-@0,9,inf", "1:7@4,5,inf", "0:-@0,3,8 2:9@8,8,inf", "0:-@0,2,inf", "1:0@4,4,inf")
	e.Transactions[0].Scheme, e.Transactions[0].Low = impl.SchemeOrdered, 0
	e.Transactions[0].Begin = 7
	e.Waits, e.Locks = waitList(3, 5), lockList(0, 3, 1, 5)
	all := []impl.ReadMark{{Key: 0, Created: 3}, {Key: 1}, {Key: 2, Created: 4}, {Key: 3, Created: 8}, {Key: 4}, {Key: 5, Created: 4}}
	for _, c := range []struct {
		begin       int
		text, want  string
		writes      []impl.Write
		first, last int // of the reads among all
		low         int
	}{
		{8, "s3 0 5", "ok 5 - 7 9 - 0", nil, 0, 5, 8},
		{8, "s3 3 3", "ok 9", nil, 3, 3, 8},
		{8, "s3 0 0", "ok 5", nil, 0, 0, 3},
		{8, "s3 5 5", "ok 0", nil, 5, 5, 4},
		{8, "s3 4 5", "ok - 0", nil, 4, 5, 4},
		{7, "s3 4 5", "ok - 0", nil, 4, 5, 4},
		{7, "s3 0 2", "ok 5 - 7", nil, 0, 2, 4},
		{7, "s3 3 3", "late", nil, 0, -1, 0},
		{7, "s3 0 5", "late", nil, 0, 2, 4},
		{7, "s3 2 4", "late", nil, 2, 2, 4},
		{7, "s3 0 3", "late", nil, 0, 2, 4},
		{7, "s3 3 5", "late", nil, 0, -1, 0},
		{7, "s3 2 4", "ok 7 42 -", []impl.Write{{Key: 3, Value: 42}}, 2, 4, 4},
		{7, "s3 0 5", "ok 5 - 7 -1 - 1", []impl.Write{{Key: 3, Value: -1}, {Key: 5, Value: 1}}, 0, 4, 4},
		{7, "s3 0 5", "ok 1 2 3 4 5 6", []impl.Write{{Key: 0, Value: 1}, {Key: 1, Value: 2}, {Key: 2, Value: 3}, {Key: 3, Value: 4}, {Key: 4, Value: 5}, {Key: 5, Value: 6}}, 0, -1, 0},
		{7, "s3 1 4", "late", []impl.Write{{Key: 0, Value: 1}, {Key: 2, Value: 3}, {Key: 4, Value: 5}}, 1, 1, 0},
	} {
		e.Transactions[0].Begin, e.Transactions[0].Writes = c.begin, c.writes
		after := perform(t, e, c.text, strings.ReplaceAll(c.want, "-1", "-"))
		want := e.Transactions[0]
		want.Low = c.low
		want.Reads = slices.DeleteFunc(slices.Clone(all[c.first:c.last+1]), func(m impl.ReadMark) bool {
			_, own := valueWritten(want, m.Key)
			return own
		})
		if c.want == "late" {
			want.State = impl.StateAborted
			checkUse(t, c.text, after, lockList(1, 5), nil)
		} else {
			checkUse(t, c.text, after, e.Locks, nil)
		}
		checkTransaction(t, c.text, after, want)
	}
}

// All scans of a store in which the chains begin and end at different stamps, with every set of own writes.
func TestAllScans(t *testing.T) {
	for set := range 64 {
		for _, scheme := range schemes {
			x := begun(scheme, 4*(set%4))
			for key := range 6 {
				if set&(1<<key) != 0 {
					x.Writes = append(x.Writes, impl.Write{Key: key, Value: 10*key - 1})
				}
			}
			e := engineOf(x)
			for first := range 6 {
				for last := first; last < 6; last++ {
					after, _ := checkStep(t, e, impl.Op{Kind: impl.OpScan, ID: 3, Key: first, High: last})
					checkStep(t, after, impl.Op{Kind: impl.OpScan, ID: 3, High: 5})
				}
			}
		}
	}
}

func TestWriteSteps(t *testing.T) {
	e := engineOf()
	e.Store = storeOfText(t, "0:-@0,1,2 1:5@2,4,6 2:6@7,8,inf", "0:-@0,9,inf")
	e.Locks, e.Waits = lockList(2, 6, 5, 3), waitList(3, 6, 6, 3)
	for _, c := range []struct {
		scheme, begin int
		text, result  string
		low           int
	}{
		{impl.SchemeCommitted, 0, "w3 0 4", "ok", 8}, {impl.SchemeCommitted, 0, "w3 1 -", "ok", 9}, {impl.SchemeCommitted, 20, "w3 5 99", "ok", 0}, {impl.SchemeCommitted, 20, "w3 2 0", "deadlock", 0},
		{impl.SchemeSnapshot, 6, "w3 0 4", "conflict", 0}, {impl.SchemeSnapshot, 7, "w3 0 4", "ok", 8}, {impl.SchemeSnapshot, 0, "w3 1 -", "ok", 9}, {impl.SchemeSnapshot, 20, "w3 2 4", "conflict", 0}, {impl.SchemeSnapshot, 20, "w3 5 4", "ok", 0},
		{impl.SchemeOptimistic, 0, "w3 0 4", "ok", 8}, {impl.SchemeOptimistic, 0, "w3 1 4", "ok", 9}, {impl.SchemeOptimistic, 0, "w3 2 4", "ok", 0}, {impl.SchemeOptimistic, 0, "w3 5 4", "ok", 0},
		{impl.SchemeOrdered, 7, "w3 0 4", "late", 0}, {impl.SchemeOrdered, 8, "w3 0 4", "ok", 8}, {impl.SchemeOrdered, 8, "w3 1 4", "late", 0}, {impl.SchemeOrdered, 9, "w3 1 4", "ok", 9}, {impl.SchemeOrdered, 0, "w3 2 4", "ok", 0},
	} {
		e.Transactions = []impl.Transaction{begun(c.scheme, c.begin), inState(6, 1)}
		after := perform(t, e, c.text, c.result)
		want := begun(c.scheme, c.begin)
		want.Low = c.low
		switch {
		case c.result != "ok":
			want.State = impl.StateAborted
			checkUse(t, c.text, after, lockList(2, 6), nil)
		case c.scheme <= impl.SchemeSnapshot:
			want.Writes = []impl.Write{writeOf(t, c.text)}
			if got := impl.LockOwner(after.Locks, want.Writes[0].Key); got != 3 || len(after.Locks) > 3 {
				t.Errorf("%s: the locks are %v", c.text, after.Locks)
			}
			checkUse(t, c.text, after, after.Locks, waitList(6, 3))
		default:
			want.Writes = []impl.Write{writeOf(t, c.text)}
			checkUse(t, c.text, after, e.Locks, waitList(6, 3))
		}
		checkTransaction(t, c.text, after, want)
		if !impl.EqualStores(after.Store, e.Store) {
			t.Errorf("%s changes the store", c.text)
		}
	}
}

func writeOf(t *testing.T, text string) impl.Write {
	t.Helper()
	o := opsOf(t, text)[0]
	return impl.Write{Key: o.Key, Value: o.Value}
}

func TestSecondWriteStepOfAKey(t *testing.T) {
	for _, name := range []string{"committed", "snapshot", "optimistic", "ordered"} {
		e := perform(t, impl.NewEngine(true), "b3 "+name+";w3 2 1;w3 4 2;w3 0 3;w3 2 -;r3 2;w3 2 99;s3 0 4", "ok;ok;ok;ok;ok;ok -;ok;ok 3 - 99 - 2")
		x := transactionOf(t, e, 3)
		if !slices.Equal(x.Writes, []impl.Write{{Key: 0, Value: 3}, {Key: 2, Value: 99}, {Key: 4, Value: 2}}) {
			t.Errorf("%s: the writes are %v", name, x.Writes)
		}
		var locks []impl.Lock
		if name == "committed" || name == "snapshot" {
			locks = lockList(0, 3, 2, 3, 4, 3)
		}
		checkUse(t, name, e, locks, nil)
	}
	// The Reader of the version has risen in between.
	e := perform(t, impl.NewEngine(true), "b1 optimistic;w1 0 5;b2 snapshot;r2 0;c2", "ok;ok;ok;ok -;ok")
	if low := transactionOf(t, e, 1).Low; low != 0 {
		t.Error("Low before:", low)
	}
	if low := transactionOf(t, perform(t, e, "w1 0 5", "ok"), 1).Low; low != 1 {
		t.Error("Low after:", low)
	}
}

// The locks are taken when writing, by the schemes that take locks, and stay until the transaction ends.
func TestBlockedWrites(t *testing.T) {
	begin := "b1 committed;b2 committed;b3 committed;b4 snapshot;w2 0 1;w3 1 2;"
	ok := "ok;ok;ok;ok;ok;ok;"
	e := perform(t, impl.NewEngine(true), begin+"w1 0 3", ok+"blocked")
	checkUse(t, "blocked", e, lockList(0, 2, 1, 3), waitList(1, 2))
	checkTransaction(t, "blocked", e, impl.Transaction{ID: 1, Scheme: 1, State: 1, High: 1000})
	again := perform(t, e, "w1 0 3", "blocked")
	checkUse(t, "blocked again", again, lockList(0, 2, 1, 3), waitList(1, 2))
	other := perform(t, e, "w1 1 3", "blocked")
	checkUse(t, "blocked by another one", other, lockList(0, 2, 1, 3), waitList(1, 3))
	for text, results := range map[string]string{"r1 0": "ok -", "w1 2 7": "ok", "s1 0 5": "ok - - - - - -", "w2 3 1": "ok", "c1": "ok", "a1": "ok", "r3 3": "ok -", "w4 1 2": "conflict", "c4": "ok", "a4": "ok"} {
		after := perform(t, e, text, results)
		var waits []impl.Wait
		if text[1] != '1' {
			waits = waitList(1, 2)
		}
		checkUse(t, text, after, after.Locks, waits)
	}
	for _, end := range []string{"c2", "a2"} {
		free := perform(t, e, end, "ok")
		checkUse(t, end, free, lockList(1, 3), nil)
		checkUse(t, end, perform(t, free, "w1 0 3", "ok"), lockList(0, 1, 1, 3), nil)
	}
	// An ID that nobody has, and one that exists already, are no operations of the one that waits.
	perform(t, e, "w9 0 1;b1 committed;c9", "invalid;invalid;invalid")
	checkUse(t, "invalid", perform(t, e, "b1 committed", "invalid"), e.Locks, e.Waits)
	// The conflict of a snapshot does not wait.
	checkUse(t, "conflict", perform(t, e, "w4 2 1;w4 0 3", "ok;conflict"), lockList(0, 2, 1, 3), waitList(1, 2))
}

func TestDeadlockOfTwo(t *testing.T) {
	e := perform(t, impl.NewEngine(true), "b1 committed;b2 committed;b3 snapshot;w3 5 1;w1 0 1;w2 1 2;w2 2 3;w1 1 3;w2 0 4", "ok;ok;ok;ok;ok;ok;ok;blocked;deadlock")
	checkUse(t, "deadlock", e, lockList(0, 1, 5, 3), nil)
	checkTransaction(t, "aborted", e, impl.Transaction{ID: 2, Scheme: 1, State: impl.StateAborted, High: 1000, Writes: []impl.Write{{Key: 1, Value: 2}, {Key: 2, Value: 3}}})
	perform(t, e, "r2 0;w2 1 1;c2;a2;b2 committed", "invalid;invalid;invalid;invalid;invalid")
	e = perform(t, e, "w1 1 3;w1 2 4;c1", "ok;ok;ok")
	checkTexts(t, "the first one", e, 1, "0:-@0,0,1 1:1@1,1,inf", "0:-@0,0,1 1:3@1,1,inf", "0:-@0,0,1 1:4@1,1,inf", "0:-@0,0,inf")
	checkUse(t, "the first one", e, lockList(5, 3), nil)
	// Without its wait, which the read has removed, the first one closes no chain; then it does.
	e = perform(t, impl.NewEngine(false), "b1 committed;b2 committed;w1 0 1;w2 1 2;w1 1 3;r1 5;w2 0 4;w1 1 3", "ok;ok;ok;ok;blocked;ok -;blocked;deadlock")
	checkUse(t, "the other one", e, lockList(1, 2), nil)
	perform(t, e, "w2 0 4;c2", "ok;ok")
}

func TestDeadlockOfThree(t *testing.T) {
	begin := "b1 committed;b2 committed;b3 committed;w1 0 1;w2 1 2;w3 2 3;w1 1 4;w2 2 5"
	e := perform(t, impl.NewEngine(true), begin, "ok;ok;ok;ok;ok;ok;blocked;blocked")
	checkUse(t, "chain", e, lockList(0, 1, 1, 2, 2, 3), waitList(1, 2, 2, 3))
	for ops, results := range map[string]string{"w3 0 6;w2 2 5;w1 0 9;w1 1 4": "deadlock;ok;ok;blocked", "w3 1 6;w2 2 5;c2;w1 1 4": "deadlock;ok;ok;ok"} {
		perform(t, e, ops, results)
		e := perform(t, e, ops[:6], "deadlock")
		checkUse(t, ops, e, lockList(0, 1, 1, 2), waitList(1, 2))
		if x := transactionOf(t, e, 3); x.State != impl.StateAborted {
			t.Errorf("after %s: %v", ops, x)
		}
	}
	// In the middle of the chain an end frees both sides.
	for _, end := range []string{"a2", "c2"} {
		checkUse(t, end, perform(t, e, end, "ok"), lockList(0, 1, 2, 3), nil)
	}
	for _, order := range permutations(3) {
		e := perform(t, impl.NewEngine(true), begin[:strings.Index(begin, ";w1 1")], "ok;ok;ok;ok;ok;ok")
		var last impl.Step
		for _, i := range order {
			e, last = checkStep(t, e, impl.Op{Kind: impl.OpWrite, ID: 1 + i, Key: (i + 1) % 3})
		}
		if last.Code != impl.CodeDeadlock || len(usesOf(e, 1+order[2])) > 0 || len(e.Waits) != 1 || len(e.Locks) != 2 {
			t.Errorf("writes in the order %v end with %v in %v", order, last, e)
		}
	}
}

// A chain that is closed without the transaction blocks it but is no deadlock of its own.
func TestChainsThatAreClosedAlready(t *testing.T) {
	e := engineOf(inState(2, 1), inState(4, 1), inState(6, 1))
	for i := range e.Transactions {
		e.Transactions[i].Scheme = impl.SchemeCommitted
	}
	e.Locks, e.Waits = lockList(1, 4), waitList(4, 6, 6, 4)
	after := perform(t, e, "w2 1 5", "blocked")
	checkUse(t, "closed chain", after, e.Locks, waitList(2, 4, 4, 6, 6, 4))
}

func TestCommitSteps(t *testing.T) {
	e := perform(t, impl.NewEngine(true), "b2 snapshot;b5 committed;c2;w5 1 7;r5 0;c5", "ok;ok;ok;ok;ok -;ok")
	checkTexts(t, "two commits", e, 2, "0:-@0,2,inf", "0:-@0,0,2 5:7@2,2,inf", "0:-@0,0,inf")
	checkTransaction(t, "without writes", e, impl.Transaction{ID: 2, Scheme: 2, State: impl.StateCommitted, High: 1, Commit: 1})
	checkTransaction(t, "with writes", e, impl.Transaction{ID: 5, Scheme: 1, State: impl.StateCommitted, High: 2, Commit: 2, Reads: []impl.ReadMark{{}}, Writes: []impl.Write{{Key: 1, Value: 7}}})
	checkUse(t, "two commits", e, nil, nil)
	perform(t, e, "c2;r2 0;w5 1 8;a5;c5", "invalid;invalid;invalid;invalid;invalid")
	if got := impl.FormatState(impl.StateAt(e.Store, 1)) + ", " + impl.FormatState(impl.StateAt(e.Store, 2)); got != "- - - - - -, - 7 - - - -" {
		t.Error("the states are", got)
	}
	e = perform(t, e, "b1 ordered;s1 0 2;b3 snapshot;w3 2 9;w3 1 -;c3;r1 4;c1", "ok;ok - 7 -;ok;ok;ok;ok;ok -;ok")
	checkTexts(t, "four commits", e, 4, "0:-@0,4,inf", "0:-@0,0,2 5:7@2,4,3 3:-@3,3,inf", "0:-@0,4,3 3:9@3,3,inf", "0:-@0,0,inf", "0:-@0,4,inf")
	checkTransaction(t, "in front", e, impl.Transaction{ID: 1, Scheme: 4, State: impl.StateCommitted, Begin: 2, Low: 2, High: 3, Commit: 4, Reads: []impl.ReadMark{{Key: 0}, {Key: 1, Created: 2}, {Key: 2}, {Key: 4}}})
}

func TestCommitsThatTheSchemeRefuses(t *testing.T) {
	for _, certify := range []bool{true, false} {
		for _, c := range []struct{ scheme, result string }{{"committed", "ok"}, {"snapshot", "conflict"}, {"optimistic", "ok"}, {"ordered", "late"}} {
			// The write of the optimistic transaction 2 takes no lock and is not refused.
			ops := "b1 " + c.scheme + ";b2 optimistic;b3 committed;w1 0 1;w1 4 2;w3 5 9;w2 0 3;c2;c1"
			e := perform(t, impl.NewEngine(certify), ops, "ok;ok;ok;ok;ok;ok;ok;ok;"+c.result)
			x := transactionOf(t, e, 1)
			if (c.result == "ok") != (x.State == impl.StateCommitted) || c.result != "ok" && (x.State != impl.StateAborted || x.Commit != 0 || e.Stamp != 1) {
				t.Errorf("%s: %v at %d", c.scheme, x, e.Stamp)
			}
			checkUse(t, c.scheme, e, lockList(5, 3), nil)
		}
	}
}

// A write skew: each of the two reads what the other one overwrites.
func TestCommitsWithoutRoom(t *testing.T) {
	ops := "b1 snapshot;b2 snapshot;b3 committed;w3 5 1;r1 0;r1 1;r2 0;r2 1;w1 0 1;w2 1 2;c1"
	ok := "ok;ok;ok;ok;ok -;ok -;ok -;ok -;ok;ok;ok"
	e := perform(t, impl.NewEngine(true), ops, ok)
	excluded := perform(t, e, "c2", "excluded")
	checkTexts(t, "certified", excluded, 1, "0:-@0,1,1 1:1@1,1,inf", "0:-@0,1,inf")
	reads := []impl.ReadMark{{Key: 0}, {Key: 1}}
	x := impl.Transaction{ID: 2, Scheme: 2, State: impl.StateAborted, High: 1000, Reads: reads, Writes: []impl.Write{{Key: 1, Value: 2}}}
	checkTransaction(t, "certified", excluded, x)
	checkUse(t, "certified", excluded, lockList(5, 3), nil)
	e = perform(t, impl.NewEngine(false), ops+";c2", ok+";ok")
	checkTexts(t, "not certified", e, 2, "0:-@0,2,1 1:1@1,1,inf", "0:-@0,2,1 2:2@2,2,inf")
	x.State, x.Low, x.High, x.Commit = impl.StateCommitted, 1, 1, 2
	checkTransaction(t, "not certified", e, x)
	checkUse(t, "not certified", e, lockList(5, 3), nil)
	// A lost update: the version that 2 has read is overwritten, so its window ends below the one that it overwrites.
	ops = "b1 committed;b2 optimistic;r2 0;w1 0 1;c1;b3 ordered;r3 0;c3;w2 0 2;c2"
	ok = "ok;ok;ok -;ok;ok;ok;ok 1;ok;ok;"
	checkTexts(t, "certified", perform(t, impl.NewEngine(true), ops, ok+"excluded"), 2, "0:-@0,0,1 1:1@1,2,inf")
	e = perform(t, impl.NewEngine(false), ops, ok+"ok")
	checkTexts(t, "not certified", e, 3, "0:-@0,3,1 1:1@1,2,1 2:2@3,3,inf")
	if x := transactionOf(t, e, 2); x.Low != 2 || x.High != 1 {
		t.Error("the window is", x.Low, x.High)
	}
}

func TestCommitsAtTheLastStamps(t *testing.T) {
	for _, certify := range []bool{true, false} {
		e := perform(t, impl.NewEngine(certify), "b1 committed;b2 optimistic;b3 snapshot;b4 ordered;b5 committed;w1 0 1;w5 0 2;w4 2 8", "ok;ok;ok;ok;ok;ok;blocked;ok")
		e.Stamp = 999
		after := perform(t, e, "c1", "invalid")
		checkTransaction(t, "999", after, e.Transactions[0])
		checkUse(t, "999", after, lockList(0, 1), waitList(5, 1))
		if !sameEngine(after, e) {
			t.Errorf("the commit at 999 changes %v to %v", e, after)
		}
		// The operation still removes the wait.
		after = perform(t, e, "c5", "invalid")
		checkUse(t, "999", after, lockList(0, 1), nil)
		perform(t, e, "r1 3;w1 4 5;c1;a1;c2;c3;c4;a2;b6 snapshot;c6", "ok -;ok;invalid;ok;invalid;invalid;invalid;ok;ok;invalid")
		// What the scheme refuses is aborted, also at the last stamp.
		late := changed(e, func(e *impl.Engine) {
			e.Store = storeOfText(t, "0:-@0,0,inf", "0:-@0,0,inf", "0:-@0,2,3 1:5@3,999,inf")
		})
		perform(t, late, "c4;c4", "late;invalid")
		late.Transactions[2].Writes = []impl.Write{{Key: 2, Value: 5}}
		perform(t, late, "c3;c3", "conflict;invalid")
		e.Stamp = 998
		after = perform(t, e, "c1;c2;w5 0 2;c5", "ok;invalid;ok;invalid")
		checkTexts(t, "998", after, 999, "0:-@0,0,999 1:1@999,999,inf", "0:-@0,0,inf")
		checkUse(t, "998", after, lockList(0, 5), nil)
		e.Stamp = 997
		after = perform(t, e, "c2;c1;c3;a3", "ok;ok;invalid;ok")
		checkTexts(t, "997", after, 999, "0:-@0,0,999 1:1@999,999,inf", "0:-@0,0,inf")
	}
}

// A chain with 50 versions is full, with and without the certifier.
func TestCommitsOfFullChains(t *testing.T) {
	for _, certify := range []bool{true, false} {
		for n, result := range map[int]string{48: "ok", 49: "ok", 50: "excluded"} {
			for key := range 6 {
				e := impl.NewEngine(certify)
				e.Store.Chains[key] = spreadChain(n, 0, 3)
				e.Stamp = 500
				for _, name := range []string{"committed", "snapshot", "optimistic", "ordered"} {
					text := strconv.Itoa(key)
					after := perform(t, e, "b1 "+name+";b2 committed;w2 "+strconv.Itoa((key+1)%6)+" 7;r1 "+text+";w1 "+text+" 5;w1 "+strconv.Itoa((key+2)%6)+" 6;c1", "ok;ok;ok;"+valueAt(e, key)+";ok;ok;"+result)
					if got := len(after.Store.Chains[key]); got != min(n+1, 50) || result == "excluded" && (!impl.EqualStores(after.Store, e.Store) || after.Stamp != 500) {
						t.Errorf("%s: a chain of %d versions has %d after a commit: %v", name, n, got, after)
					}
					checkUse(t, name, after, lockList((key+1)%6, 2), nil)
				}
			}
		}
	}
}

// valueAt returns the text of the result of a read of the latest version.
func valueAt(e impl.Engine, key int) string {
	return stepText(impl.Step{Values: []int{latestIn(e.Store, key).Value}})
}

func TestAbortSteps(t *testing.T) {
	for id, want := range map[int]impl.Engine{
		3: changed(busyEngine(), func(e *impl.Engine) { e.Locks, e.Waits, e.Transactions[1].State = lockList(2, 6), waitList(8, 6), 3 }),
		6: changed(busyEngine(), func(e *impl.Engine) { e.Locks, e.Waits, e.Transactions[3].State = lockList(0, 3, 3, 3), nil, 3 }),
		8: changed(busyEngine(), func(e *impl.Engine) { e.Waits, e.Transactions[4].State = waitList(6, 3), 3 }),
	} {
		e, step := checkStep(t, busyEngine(), impl.Op{Kind: impl.OpAbort, ID: id})
		if !sameEngine(e, want) || !sameStep(step, impl.Step{}) {
			t.Errorf("the abort of %d: %v, %v, want %v", id, e, step, want)
		}
		checkInvalidStep(t, "aborted", e, impl.Op{Kind: impl.OpAbort, ID: id})
	}
	for _, stamp := range []int{12, 998, 999} {
		for _, certify := range []bool{true, false} {
			e := changed(busyEngine(), func(e *impl.Engine) { e.Stamp, e.Certify = stamp, certify })
			checkUse(t, "all", perform(t, e, "a3;a6;a8;a3", "ok;ok;ok;invalid"), nil, nil)
		}
	}
}

// Every operation but the first one removes the wait of its transaction, and no other wait unless the transaction ends.
func TestOperationsOfTransactionsThatWait(t *testing.T) {
	for _, o := range fewOps() {
		for _, waits := range [][]impl.Wait{waitList(3, 6, 6, 8), waitList(3, 8, 6, 3, 8, 6), waitList(3, 8, 8, 3), waitList(6, 8), nil} {
			for _, certify := range []bool{true, false} {
				e := changed(busyEngine(), func(e *impl.Engine) { e.Waits, e.Certify = waits, certify })
				checkStep(t, e, o)
			}
		}
	}
}

func TestRunOps(t *testing.T) {
	long := "b1 snapshot" + strings.Repeat(";r1 0", 59)
	for _, certify := range []bool{true, false} {
		for n, want := range map[int]int{0: 0, 1: 1, 2: 2, 60: 60, 99: 99, 100: 100, 101: 100, 160: 100, 5000: 100} {
			ops := slices.Repeat(opsOf(t, long), 100)[:n]
			e, steps := impl.RunOps(certify, ops)
			wantEngine, wantSteps := stepsAlong(t, impl.NewEngine(certify), ops[:want])
			if len(steps) != want || !slices.EqualFunc(steps, wantSteps, sameStep) || !sameEngine(e, wantEngine) {
				t.Errorf("RunOps(%t) of %d operations: %v, %v", certify, n, e, steps)
			}
		}
		reads := slices.Repeat([]impl.Op{{Kind: 2, ID: 1}}, 97)
		for n, want := range map[int]int{96: impl.StateCommitted, 97: impl.StateActive} {
			ops := slices.Concat(opsOf(t, "b1 ordered;w1 2 9;b2 snapshot"), reads[:n], opsOf(t, "c1;a2"))
			e, steps := impl.RunOps(certify, ops)
			if len(steps) != 100 || transactionOf(t, e, 1).State != want || transactionOf(t, e, 2).State != impl.StateActive {
				t.Errorf("RunOps(%t) with a commit at %d: %v, %v", certify, len(ops)-1, e, steps)
			}
		}
		wrong := []impl.Op{{}, {Kind: 1, ID: 1, Scheme: 3}, {Kind: 7, ID: 1}, {Kind: 3, ID: 1, Value: 100}, {Kind: 3, ID: 1, Key: 4, Value: 99}, {Kind: -1}, {Kind: 5, ID: 1, Value: 1}, {Kind: 5, ID: 1}}
		e, steps := impl.RunOps(certify, wrong)
		var codes []int
		for _, step := range steps {
			codes = append(codes, step.Code)
		}
		if !slices.Equal(codes, []int{6, 0, 6, 6, 0, 6, 6, 0}) || e.Stamp != 1 || e.Certify != certify || latestIn(e.Store, 4).Value != 99 {
			t.Errorf("RunOps(%t, %v) = %v, %v", certify, wrong, e, steps)
		}
		if e, steps := impl.RunOps(certify, nil); len(steps) != 0 || !sameEngine(e, impl.NewEngine(certify)) {
			t.Errorf("RunOps(%t, nil) = %v, %v", certify, e, steps)
		}
	}
	// The certifier of the run is the one that is asked for.
	skew := opsOf(t, "b1 snapshot;b2 snapshot;r1 0;r1 1;r2 0;r2 1;w1 0 1;w2 1 2;c1;c2")
	for certify, want := range map[bool]int{true: impl.CodeExcluded, false: impl.CodeOk} {
		if _, steps := impl.RunOps(certify, skew); steps[9].Code != want {
			t.Errorf("RunOps(%t): %v", certify, steps)
		}
	}
}

// stepsAlong performs all the operations.
func stepsAlong(t *testing.T, e impl.Engine, ops []impl.Op) (impl.Engine, []impl.Step) {
	t.Helper()
	var steps []impl.Step
	for _, o := range ops {
		var step impl.Step
		e, step = checkStep(t, e, o)
		steps = append(steps, step)
	}
	return e, steps
}

// anyOp returns an operation that is most likely valid, prefers writes and some of the keys, so that transactions often meet.
func anyOp(random *rand.Rand) impl.Op {
	one := func(l ...int) int { return l[random.Intn(len(l))] }
	o := impl.Op{Kind: one(1, 1, 2, 3, 3, 3, 3, 4, 5, 5, 6), ID: 1 + random.Intn(one(6, 9))}
	key := one(0, 0, 0, 1, 1, 1, 2, 3, 4, 5)
	switch o.Kind {
	case 1:
		o.Scheme = one(1, 1, 1, 2, 2, 3, 4)
	case 2:
		o.Key = key
	case 3:
		o.Key, o.Value = key, random.Intn(101)-1
	case 4:
		o.Key = key
		o.High = key + random.Intn(6-key)
	}
	if random.Intn(100) == 0 {
		*[]*int{&o.Kind, &o.ID, &o.Scheme, &o.Key, &o.High, &o.Value}[random.Intn(6)] += random.Intn(21) - 10
	}
	return o
}

// anyStart returns an engine in which a run begins.
func anyStart(random *rand.Rand) impl.Engine {
	e := []func() impl.Engine{busyEngine, func() impl.Engine { return impl.NewEngine(true) }, func() impl.Engine { return fullReader(60) }, func() impl.Engine { return fullReader(57) }}[random.Intn(4)]()
	e.Certify = random.Intn(2) == 0
	if random.Intn(4) == 0 {
		e.Stamp = 985 + random.Intn(15)
	}
	if random.Intn(3) == 0 {
		for key, l := range e.Store.Chains {
			if len(l) == 1 && l[0] == version(0, -1, 0, 0, 1000) && e.Stamp >= 200 {
				e.Store.Chains[key] = spreadChain(45+random.Intn(6), 0, 3)
			}
		}
	}
	return e
}

// Runs of all schemes, from engines near all limits. Ended transactions leave some of the engines, so that others can begin.
func TestPromiseOfSteps(t *testing.T) {
	random := rand.New(rand.NewSource(14))
	codes := map[[3]int]int{}
	for range 800 {
		e := anyStart(random)
		for range 120 {
			o := anyOp(random)
			scheme := 0
			if i := impl.FindTransaction(e, o.ID); i >= 0 && o.Kind != impl.OpBegin {
				scheme = e.Transactions[i].Scheme
			}
			after, step := checkStep(t, e, o)
			codes[[3]int{o.Kind, scheme, step.Code}]++
			e = after
			if len(e.Transactions) == 6 && random.Intn(5) == 0 {
				e.Transactions = slices.DeleteFunc(e.Transactions, func(x impl.Transaction) bool { return x.State != impl.StateActive })
			}
		}
		if t.Failed() {
			return
		}
	}
	expected := [][3]int{{1, 0, 0}, {1, 0, 6}}
	for scheme := 1; scheme <= 4; scheme++ {
		for kind := 2; kind <= 6; kind++ {
			expected = append(expected, [3]int{kind, scheme, 0}, [3]int{kind, scheme, 6})
		}
		expected = append(expected, [3]int{5, scheme, 5})
	}
	expected = append(expected, [][3]int{{2, 4, 3}, {4, 4, 3}, {3, 1, 1}, {3, 1, 4}, {3, 2, 2}, {3, 4, 3}, {5, 2, 2}, {5, 4, 3}}...)
	for _, c := range expected {
		if codes[c] < 3 {
			t.Errorf("the runs have only %d operations of the kind %d and the scheme %d with the code %d", codes[c], c[0], c[1], c[2])
		}
	}
}

// Whole runs from new engines: the store is the one that the committed transactions define, and RunOps does what the steps do.
func TestRunsOfAllSchemes(t *testing.T) {
	random := rand.New(rand.NewSource(15))
	commits, refusals := 0, 0
	for n := range 600 {
		ops := make([]impl.Op, random.Intn(140))
		for i := range ops {
			ops[i] = anyOp(random)
		}
		want, wantSteps := stepsAlong(t, impl.NewEngine(n%2 == 0), ops[:min(len(ops), 100)])
		e, steps := impl.RunOps(n%2 == 0, ops)
		if !slices.EqualFunc(steps, wantSteps, sameStep) || !sameEngine(e, want) {
			t.Fatalf("RunOps(%t, %v) = %v, %v, want %v, %v", n%2 == 0, ops, e, steps, want, wantSteps)
		}
		committed := slices.DeleteFunc(slices.Clone(e.Transactions), func(x impl.Transaction) bool { return x.State != impl.StateCommitted })
		slices.SortFunc(committed, func(a, b impl.Transaction) int { return a.Commit - b.Commit })
		if !impl.EqualStores(e.Store, storeOfCommits(committed)) || e.Stamp != len(committed) {
			t.Fatalf("the commits of %v define another store than %v", ops, e)
		}
		commits += len(committed)
		refusals += len(impl.TransactionIDs(e, impl.StateAborted))
	}
	if commits < 500 || refusals < 500 {
		t.Errorf("only %d commits and %d aborts", commits, refusals)
	}
}

func stepsOfAll() []impl.Step {
	l := []impl.Step{{}, {Code: -1}, {Code: 7}, {Values: []int{0}}, {Values: []int{-1}}, {Values: []int{0, 0}}, {Values: []int{1, 2, 3}}, {Values: []int{3, 2, 1}}, {Values: []int{100, -2}}, {Values: slices.Repeat([]int{5}, 7)}}
	for code := 1; code <= 6; code++ {
		l = append(l, impl.Step{Code: code}, impl.Step{Code: code, Values: []int{0}}, impl.Step{Code: code, Values: []int{1, 2, 3}})
	}
	for _, n := range farInts {
		l = append(l, impl.Step{Code: n}, impl.Step{Values: []int{n}})
	}
	return l
}

func TestEqualSteps(t *testing.T) {
	for i, a := range stepsOfAll() {
		for j, b := range stepsOfAll() {
			if got := impl.EqualSteps(a, b); got != (i == j) {
				t.Errorf("EqualSteps(%v, %v) = %t", a, b, got)
			}
		}
		for _, l := range otherLists(a.Values, func(value *int) { *value++ }, func(value *int) { *value-- }) {
			if b := (impl.Step{Code: a.Code, Values: l}); impl.EqualSteps(a, b) || impl.EqualSteps(b, a) {
				t.Errorf("EqualSteps(%v, %v)", a, b)
			}
		}
		for code, values := a.Code, a.Values; code != a.Code+4; code++ {
			if got := impl.EqualSteps(a, impl.Step{Code: code, Values: slices.Clone(values)}); got != (code == a.Code) {
				t.Errorf("EqualSteps(%v, the same with the code %d) = %t", a, code, got)
			}
		}
	}
	for code := range 7 {
		if a, b := (impl.Step{Code: code}), (impl.Step{Code: code, Values: []int{}}); !impl.EqualSteps(a, b) || !impl.EqualSteps(b, a) {
			t.Errorf("a nil and an empty list of the code %d are not equal", code)
		}
	}
}

func checkStepText(t *testing.T, s impl.Step, want string) {
	t.Helper()
	if got := impl.FormatStep(s); got != want {
		t.Errorf("FormatStep(%v) = %q, want %q", s, got, want)
	}
}

func TestFormatStep(t *testing.T) {
	names := []string{"ok", "blocked", "conflict", "late", "deadlock", "excluded", "invalid"}
	for code := -300; code <= 300; code++ {
		name := ""
		if code >= 0 && code <= 6 {
			name = names[code]
		}
		for _, c := range []struct {
			values []int
			text   string
		}{
			{nil, ""}, {[]int{}, ""}, {[]int{0}, " 0"}, {[]int{-1}, " -"}, {[]int{99}, " 99"}, {[]int{10}, " 10"}, {[]int{5, -1}, " 5 -"}, {[]int{-1, -1, -1}, " - - -"},
			{[]int{-1, 0, 1, 9, 98, 99}, " - 0 1 9 98 99"}, {[]int{99, 99, 99, 99, 99, 99}, " 99 99 99 99 99 99"}, {[]int{-1, -1, -1, -1, -1, -1}, " - - - - - -"},
		} {
			want := name + c.text
			if name == "" {
				want = ""
			}
			checkStepText(t, impl.Step{Code: code, Values: c.values}, want)
		}
		for _, wrong := range [][]int{{-2}, {100}, {5, -2}, {100, 5}, {1, 2, 3, 4, 5, 100}, {-2, 2, 3, 4, 5, 6}, {1, 2, -2, 4, 5, 6}, {1, 2, 3, 4, 5, 6, 7}, {-1, -1, -1, -1, -1, -1, -1}, slices.Repeat([]int{0}, 5000)} {
			checkStepText(t, impl.Step{Code: code, Values: wrong}, "")
		}
	}
	for _, n := range farInts {
		checkStepText(t, impl.Step{Code: n}, "")
		checkStepText(t, impl.Step{Code: n, Values: []int{5}}, "")
		checkStepText(t, impl.Step{Values: []int{n}}, "")
		checkStepText(t, impl.Step{Code: 6, Values: []int{1, n}}, "")
	}
}

// overwriteEngine overwrites all lists of an engine up to their capacities, and expects that no two of them share memory.
func overwriteEngine(t *testing.T, what string, e impl.Engine) {
	t.Helper()
	for i, x := range e.Transactions {
		for n := range x.Reads[:cap(x.Reads)] {
			x.Reads[:cap(x.Reads)][n] = impl.ReadMark{Key: -7, Created: 100*i + n}
		}
		for n := range x.Writes[:cap(x.Writes)] {
			x.Writes[:cap(x.Writes)][n] = impl.Write{Key: -7, Value: 100*i + n}
		}
	}
	for i, x := range e.Transactions {
		for n, m := range x.Reads[:cap(x.Reads)] {
			if m != (impl.ReadMark{Key: -7, Created: 100*i + n}) {
				t.Errorf("%s: the reads of %d share memory with other ones", what, x.ID)
			}
		}
		for n, w := range x.Writes[:cap(x.Writes)] {
			if w != (impl.Write{Key: -7, Value: 100*i + n}) {
				t.Errorf("%s: the writes of %d share memory with other ones", what, x.ID)
			}
		}
	}
	overwriteResults(t, what, e.Store, impl.Transaction{})
	clear(e.Transactions[:cap(e.Transactions)])
	clear(e.Locks[:cap(e.Locks)])
	clear(e.Waits[:cap(e.Waits)])
}

// checkStepMemory performs the operation on an engine whose lists are the beginnings of longer ones, and overwrites the results.
func checkStepMemory(t *testing.T, e impl.Engine, o impl.Op) {
	t.Helper()
	part, stays := engineWithSpare(e)
	after, step := impl.StepEngine(part, o)
	other, otherStep := impl.StepEngine(part, o)
	want, wantStep := cloneEngine(other), slices.Clone(otherStep.Values)
	overwriteEngine(t, "step", after)
	clear(step.Values[:cap(step.Values)])
	if !stays() || !sameEngine(part, e) {
		t.Errorf("%v changes its argument %v, or shares memory with it", o, e)
	}
	if !sameEngine(other, want) || !slices.Equal(otherStep.Values, wantStep) {
		t.Errorf("two results of %v in %v share memory", o, e)
	}
}

func TestStepsShareNoMemory(t *testing.T) {
	random := rand.New(rand.NewSource(16))
	for _, start := range append(invalidEngines(), busyEngine(), busyRead(), endedEngine(), fullReader(60), fullReader(56), impl.NewEngine(true)) {
		for _, o := range append(fewOps(), impl.Op{}, impl.Op{Kind: 5, ID: 10}) {
			checkStepMemory(t, start, o)
		}
	}
	for range 60 {
		e := anyStart(random)
		for range 60 {
			o := anyOp(random)
			checkStepMemory(t, e, o)
			e, _ = impl.StepEngine(e, o)
		}
	}
}

func TestRunsShareNoMemory(t *testing.T) {
	random := rand.New(rand.NewSource(17))
	for range 60 {
		ops := make([]impl.Op, 110)
		for i := range ops {
			ops[i] = anyOp(random)
		}
		before := slices.Clone(ops)
		part := ops[:random.Intn(111)]
		e, steps := impl.RunOps(true, part)
		other, otherSteps := impl.RunOps(true, part)
		want := cloneEngine(other)
		overwriteEngine(t, "run", e)
		for i, step := range steps {
			for n := range step.Values[:cap(step.Values)] {
				step.Values[:cap(step.Values)][n] = -1000*i - n
			}
		}
		for i, step := range steps {
			for n, value := range step.Values[:cap(step.Values)] {
				if value != -1000*i-n {
					t.Errorf("two lists of values share memory")
				}
			}
		}
		clear(steps[:cap(steps)])
		_, wantSteps := stepsAlong(t, impl.NewEngine(true), part[:min(len(part), 100)])
		if !sameEngine(other, want) || !slices.EqualFunc(otherSteps, wantSteps, sameStep) || !slices.Equal(ops, before) {
			t.Errorf("a run of %v shares memory or changes it", part)
		}
	}
}

func TestStepArgumentsStay(t *testing.T) {
	for _, s := range stepsOfAll() {
		checkListKept(t, "values", s.Values, -5, func(part []int) []int {
			impl.EqualSteps(impl.Step{Code: s.Code, Values: part}, s)
			impl.EqualSteps(s, impl.Step{Code: s.Code, Values: part})
			impl.FormatStep(impl.Step{Code: s.Code, Values: part})
			return nil
		})
	}
}
