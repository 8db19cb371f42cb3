package tests

import (
	"math"
	"math/rand"
	"slices"
	"testing"

	"loop.example/g01924/impl"
)

// waiting has for every ID the one for which it waits, 0 where there is none: the definition of waits. The index 0 is unused.
type waiting [impl.MaxTransactionID + 1]int

func (w waiting) waits() []impl.Wait {
	var l []impl.Wait
	for id, owner := range w {
		if owner != 0 {
			l = append(l, impl.Wait{ID: id, For: owner})
		}
	}
	return l
}

func (w waiting) without(id int) waiting {
	for other, owner := range w {
		if other == id || owner == id {
			w[other] = 0
		}
	}
	return w
}

// reached tells for every two IDs whether the second one is reached from the first one by one wait or more (the transitive closure).
func (w waiting) reached() (r [len(waiting{})][len(waiting{})]bool) {
	for id, owner := range w {
		if owner != 0 {
			r[id][owner] = true
		}
	}
	for via := range w {
		for from := range w {
			for to := range w {
				r[from][to] = r[from][to] || r[from][via] && r[via][to]
			}
		}
	}
	return r
}

// waitingAmong returns every choice of another one of the IDs, or none, for each of the IDs.
func waitingAmong(ids ...int) []waiting {
	all := []waiting{{}}
	for _, id := range ids {
		for _, w := range slices.Clone(all) {
			for _, owner := range ids {
				if owner != id {
					w[id] = owner
					all = append(all, w)
				}
			}
		}
	}
	return all
}

// randomWaiting returns waits in which every ID waits for one of the others or for none, each with the same chance.
func randomWaiting(random *rand.Rand) waiting {
	var w waiting
	for id := 1; id <= impl.MaxTransactionID; id++ {
		if owner := 1 + random.Intn(impl.MaxTransactionID); owner != id {
			w[id] = owner
		}
	}
	return w
}

// waitList returns waits of the pairs of an ID and the one for which it waits.
func waitList(pairs ...int) []impl.Wait {
	var l []impl.Wait
	for i := 0; i < len(pairs); i += 2 {
		l = append(l, impl.Wait{ID: pairs[i], For: pairs[i+1]})
	}
	return l
}

// waitsAlong returns waits of every ID for the next one.
func waitsAlong(ids ...int) waiting {
	var w waiting
	for i := 1; i < len(ids); i++ {
		w[ids[i-1]] = ids[i]
	}
	return w
}

func times(l []int, n int) int {
	count := 0
	for _, element := range l {
		if element == n {
			count++
		}
	}
	return count
}

// checkChain checks every element of the chain against the definition.
func checkChain(t *testing.T, w waiting, id int) {
	t.Helper()
	l := w.waits()
	chain := impl.WaitChain(l, id)
	if len(chain) == 0 || chain[0] != id {
		t.Fatalf("WaitChain(%v, %d) = %v", l, id, chain)
	}
	last := len(chain) - 1
	for i, element := range chain[:last] {
		if w[element] != chain[i+1] {
			t.Errorf("WaitChain(%v, %d) = %v although %d waits for %d", l, id, chain, element, w[element])
		}
		if times(chain[:last], element) != 1 {
			t.Errorf("WaitChain(%v, %d) = %v: %d occurs again before the end", l, id, chain, element)
		}
	}
	want := 2
	if w[chain[last]] == 0 {
		want = 1
	}
	if got := times(chain, chain[last]); got != want {
		t.Errorf("WaitChain(%v, %d) = %v: the last element occurs %d times, want %d", l, id, chain, got, want)
	}
	if !slices.Equal(l, w.waits()) {
		t.Errorf("WaitChain(%v, %d) changes the waits to %v", w.waits(), id, l)
	}
}

// checkSet checks a wait that may be set; it returns the waits after it.
func checkSet(t *testing.T, w waiting, id, owner int) waiting {
	t.Helper()
	l := w.waits()
	want := w
	want[id] = owner
	got, ok := impl.SetWait(l, id, owner)
	if !ok || !slices.Equal(got, want.waits()) || !impl.AreWaits(got) {
		t.Errorf("SetWait(%v, %d, %d) = %v, %t, want %v, true", l, id, owner, got, ok, want.waits())
	}
	if chain := impl.WaitChain(got, id); len(chain) < 2 || chain[0] != id || chain[1] != owner {
		t.Errorf("WaitChain(%v, %d) = %v after SetWait for %d", got, id, chain, owner)
	}
	if closes := impl.WouldDeadlock(l, id, owner); closes != w.reached()[owner][id] {
		t.Errorf("WouldDeadlock(%v, %d, %d) = %t", l, id, owner, closes)
	}
	if !slices.Equal(l, w.waits()) {
		t.Errorf("setting the wait of %d for %d changes %v to %v", id, owner, w.waits(), l)
	}
	return want
}

// checkCleared checks what promise 8 says of a transaction that ends; it returns the waits after it.
func checkCleared(t *testing.T, w waiting, id int) waiting {
	t.Helper()
	l := w.waits()
	want := w.without(id)
	got := impl.ClearWaits(l, id)
	if !slices.Equal(got, want.waits()) || !impl.AreWaits(got) {
		t.Errorf("ClearWaits(%v, %d) = %v, want %v", l, id, got, want.waits())
	}
	for _, wait := range got {
		if wait.ID == id || wait.For == id {
			t.Errorf("ClearWaits(%v, %d) = %v keeps %v", l, id, got, wait)
		}
	}
	for _, wait := range l {
		if wait.ID != id && wait.For != id && !slices.Contains(got, wait) {
			t.Errorf("ClearWaits(%v, %d) = %v lacks %v", l, id, got, wait)
		}
	}
	for other := 1; other <= impl.MaxTransactionID; other++ {
		if impl.WouldDeadlock(got, id, other) || impl.WouldDeadlock(got, other, id) {
			t.Errorf("in %v, after the end of %d, a wait of it or for it is refused", got, id)
		}
	}
	if !slices.Equal(l, w.waits()) {
		t.Errorf("ClearWaits(%v, %d) changes the waits to %v", w.waits(), id, l)
	}
	return want
}

func checkNoWait(t *testing.T, what string, l []impl.Wait, id, owner int) {
	t.Helper()
	before := slices.Clone(l)
	got, ok := impl.SetWait(l, id, owner)
	if ok || !slices.Equal(got, before) {
		t.Errorf("%s: SetWait(%v, %d, %d) = %v, %t, want the waits and false", what, before, id, owner, got, ok)
	}
	if impl.WouldDeadlock(l, id, owner) {
		t.Errorf("%s: WouldDeadlock(%v, %d, %d) = true", what, before, id, owner)
	}
	if !slices.Equal(l, before) {
		t.Errorf("%s: the wait of %d for %d changes %v to %v", what, id, owner, before, l)
	}
}

func checkNoChain(t *testing.T, l []impl.Wait, id int) {
	t.Helper()
	if got := impl.WaitChain(l, id); len(got) != 0 {
		t.Errorf("WaitChain(%v, %d) = %v, want an empty list", l, id, got)
	}
}

// checkWaiting checks every function with these waits and all IDs.
func checkWaiting(t *testing.T, w waiting) {
	t.Helper()
	if !impl.AreWaits(w.waits()) {
		t.Errorf("AreWaits(%v) = false", w.waits())
	}
	for id := 1; id <= impl.MaxTransactionID; id++ {
		checkChain(t, w, id)
		checkCleared(t, w, id)
		for owner := 1; owner <= impl.MaxTransactionID; owner++ {
			if owner == id {
				checkNoWait(t, "the same ID", w.waits(), id, owner)
			} else {
				checkSet(t, w, id, owner)
			}
		}
	}
}

func TestWaitsOfFourIDs(t *testing.T) {
	all := waitingAmong(1, 4, 5, 9)
	if len(all) != 256 {
		t.Fatal("choices:", len(all))
	}
	for _, w := range all {
		checkWaiting(t, w)
	}
}

func TestRandomWaitsOfAllIDs(t *testing.T) {
	random := rand.New(rand.NewSource(11))
	for range 300 {
		w := randomWaiting(random)
		checkWaiting(t, w)
		checkWaiting(t, w.without(1+random.Intn(impl.MaxTransactionID)))
	}
}

func TestRandomWaitsAndEnds(t *testing.T) {
	random := rand.New(rand.NewSource(12))
	closed := 0
	for range 300 {
		var l []impl.Wait
		var w waiting
		for range 40 {
			id, owner := 1+random.Intn(impl.MaxTransactionID), 1+random.Intn(impl.MaxTransactionID)
			switch {
			case random.Intn(5) == 0:
				w, l = checkCleared(t, w, id), impl.ClearWaits(l, id)
			case id == owner:
				checkNoWait(t, "the same ID", l, id, owner)
			default:
				if impl.WouldDeadlock(l, id, owner) {
					closed++
				}
				w = checkSet(t, w, id, owner)
				l, _ = impl.SetWait(l, id, owner)
			}
			if !slices.Equal(l, w.waits()) {
				t.Fatalf("the waits are %v, want %v", l, w.waits())
			}
		}
	}
	if closed < 100 {
		t.Error("only", closed, "waits have closed a chain")
	}
}

// A caller that refuses the waits of which WouldDeadlock tells never has a chain that is closed.
func TestWaitsWithoutDeadlocks(t *testing.T) {
	random := rand.New(rand.NewSource(13))
	for range 300 {
		var l []impl.Wait
		for range 30 {
			id, owner := 1+random.Intn(impl.MaxTransactionID), 1+random.Intn(impl.MaxTransactionID)
			if impl.WouldDeadlock(l, id, owner) {
				l = impl.ClearWaits(l, id)
			} else {
				l, _ = impl.SetWait(l, id, owner)
			}
			checkEnds(t, l)
		}
	}
}

// checkEnds checks that every chain ends: with an ID that waits for none, and without an ID that occurs twice.
func checkEnds(t *testing.T, l []impl.Wait) {
	t.Helper()
	for id := 1; id <= impl.MaxTransactionID; id++ {
		chain := impl.WaitChain(l, id)
		for i, element := range chain {
			if times(chain, element) != 1 {
				t.Errorf("WaitChain(%v, %d) = %v: %d occurs twice", l, id, chain, element)
			}
			waits := slices.ContainsFunc(l, func(w impl.Wait) bool { return w.ID == element })
			if last := i == len(chain)-1; waits == last {
				t.Errorf("WaitChain(%v, %d) = %v: that %d waits is %t", l, id, chain, element, waits)
			}
		}
	}
}

func TestChainsThatEnd(t *testing.T) {
	for _, l := range [][]impl.Wait{
		nil, waitList(3, 8), waitList(8, 3), waitList(1, 2, 2, 3), waitList(2, 1, 3, 2), waitList(1, 9, 2, 9, 3, 9),
		waitList(1, 5, 3, 1, 5, 7, 8, 3), waitsAlong(4, 9, 1, 8, 2, 7, 3, 6, 5).waits(),
	} {
		checkEnds(t, l)
	}
}

func TestWaitChainLiterals(t *testing.T) {
	all := waitsAlong(4, 9, 1, 8, 2, 7, 3, 6, 5)
	ring, back := all, all
	ring[5], back[5] = 4, 8
	for _, c := range []struct {
		what string
		l    []impl.Wait
		id   int
		want []int
	}{
		{"nil", nil, 1, []int{1}},
		{"no waits", []impl.Wait{}, 9, []int{9}},
		{"an ID that waits for none", waitList(1, 2, 4, 5), 3, []int{3}},
		{"an ID that is only waited for", waitList(1, 2, 4, 5), 2, []int{2}},
		{"one wait", waitList(1, 2, 4, 5), 4, []int{4, 5}},
		{"a chain that ends", waitList(1, 5, 3, 1, 5, 7, 8, 3), 8, []int{8, 3, 1, 5, 7}},
		{"a part of it", waitList(1, 5, 3, 1, 5, 7, 8, 3), 1, []int{1, 5, 7}},
		{"its end", waitList(1, 5, 3, 1, 5, 7, 8, 3), 7, []int{7}},
		{"the first of two occurs again", waitList(3, 6, 6, 3), 3, []int{3, 6, 3}},
		{"the first of two occurs again, from the other one", waitList(3, 6, 6, 3), 6, []int{6, 3, 6}},
		{"the first of three occurs again", waitList(1, 9, 4, 1, 9, 4), 9, []int{9, 4, 1, 9}},
		{"the second one occurs again", waitList(2, 3, 3, 6, 6, 3), 2, []int{2, 3, 6, 3}},
		{"the third one occurs again", waitList(1, 2, 2, 7, 4, 7, 7, 8, 8, 4), 1, []int{1, 2, 7, 8, 4, 7}},
		{"two closed chains", waitList(1, 2, 2, 1, 3, 4, 4, 3), 4, []int{4, 3, 4}},
		{"all IDs", all.waits(), 4, []int{4, 9, 1, 8, 2, 7, 3, 6, 5}},
		{"all IDs, the first one again", ring.waits(), 4, []int{4, 9, 1, 8, 2, 7, 3, 6, 5, 4}},
		{"all IDs, the first one again, from another one", ring.waits(), 7, []int{7, 3, 6, 5, 4, 9, 1, 8, 2, 7}},
		{"all IDs, a later one again", back.waits(), 4, []int{4, 9, 1, 8, 2, 7, 3, 6, 5, 8}},
		{"the ID 0", waitList(1, 2), 0, nil},
		{"an ID beyond", waitList(1, 2), impl.MaxTransactionID + 1, nil},
		{"no waits, the ID 0", nil, 0, nil},
		{"a wait for itself", waitList(1, 1), 1, nil},
		{"descending", waitList(2, 3, 1, 2), 1, nil},
		{"not valid elsewhere", waitList(1, 2, 9, 0), 1, nil},
	} {
		if got := impl.WaitChain(c.l, c.id); !slices.Equal(got, c.want) {
			t.Errorf("%s: WaitChain(%v, %d) = %v, want %v", c.what, c.l, c.id, got, c.want)
		}
	}
}

func TestWouldDeadlockLiterals(t *testing.T) {
	closed := waitList(2, 3, 3, 6, 6, 3)
	for _, c := range []struct {
		what      string
		l         []impl.Wait
		id, owner int
		want      bool
	}{
		{"no waits", nil, 1, 2, false},
		{"two", waitList(1, 2), 2, 1, true},
		{"two, descending", waitList(9, 4), 4, 9, true},
		{"three", waitList(1, 2, 2, 3), 3, 1, true},
		{"two of three", waitList(1, 2, 2, 3), 3, 2, true},
		{"three in another order", waitList(2, 9, 5, 2), 9, 5, true},
		{"the wait that is there", waitList(1, 2), 1, 2, false},
		{"for the end of a chain", waitList(1, 2, 2, 3), 4, 3, false},
		{"for the beginning of a chain", waitList(1, 2, 2, 3), 4, 1, false},
		{"of the end for another one", waitList(1, 2, 2, 3), 3, 4, false},
		{"both wait for the same one", waitList(1, 3, 2, 3), 1, 2, false},
		{"into a closed chain", closed, 1, 3, false},
		{"behind a chain into a closed one", closed, 5, 2, false},
		{"the wait that leads into a closed chain", closed, 2, 6, false},
		{"a wait within a closed chain", closed, 3, 6, true},
		{"a wait of a closed chain, back to its beginning", closed, 3, 2, true},
		{"a wait of a closed chain, out of it", closed, 3, 1, false},
		{"a wait of another chain that is replaced", waitList(1, 2, 2, 3, 4, 1), 1, 4, true},
		{"a shorter way that is replaced", waitList(1, 2, 2, 3), 1, 3, false},
		{"a closed chain that is opened", waitList(1, 2, 2, 1), 2, 3, false},
		{"a replaced wait that closes another chain", waitList(1, 2, 3, 1), 1, 3, true},
		{"the same ID", waitList(1, 2, 2, 1), 1, 1, false},
		{"the ID 0", waitList(1, 2), 0, 1, false},
		{"for the ID 0", waitList(1, 2), 2, 0, false},
		{"not valid elsewhere", waitList(1, 2, 9, 9), 2, 1, false},
	} {
		if got := impl.WouldDeadlock(c.l, c.id, c.owner); got != c.want {
			t.Errorf("%s: WouldDeadlock(%v, %d, %d) = %t, want %t", c.what, c.l, c.id, c.owner, got, c.want)
		}
	}
}

func TestWouldDeadlockOfAllIDs(t *testing.T) {
	random := rand.New(rand.NewSource(14))
	for range 300 {
		ids := random.Perm(impl.MaxTransactionID)
		for i := range ids {
			ids[i]++
		}
		first, last := ids[0], ids[len(ids)-1]
		w := waitsAlong(ids...)
		for i, id := range ids[:len(ids)-1] {
			if !impl.WouldDeadlock(w.waits(), last, id) {
				t.Errorf("WouldDeadlock(%v, %d, %d) = false", w.waits(), last, id)
			}
			if impl.WouldDeadlock(w.waits(), first, ids[i+1]) {
				t.Errorf("WouldDeadlock(%v, %d, %d) = true", w.waits(), first, ids[i+1])
			}
		}
		checkWaiting(t, w)
		checkWaiting(t, checkSet(t, w, last, first))
	}
}

func TestSetWaitLiterals(t *testing.T) {
	two := waitList(3, 1, 6, 9)
	full := waitList(1, 2, 2, 3, 3, 4, 4, 5, 5, 6, 6, 7, 7, 8, 8, 9, 9, 1)
	for _, c := range []struct {
		what      string
		l         []impl.Wait
		id, owner int
		want      []impl.Wait
		ok        bool
	}{
		{"nil", nil, 1, 9, waitList(1, 9), true},
		{"no waits", []impl.Wait{}, 9, 1, waitList(9, 1), true},
		{"below", two, 1, 2, waitList(1, 2, 3, 1, 6, 9), true},
		{"just below", two, 2, 3, waitList(2, 3, 3, 1, 6, 9), true},
		{"between", two, 5, 6, waitList(3, 1, 5, 6, 6, 9), true},
		{"just above", two, 7, 6, waitList(3, 1, 6, 9, 7, 6), true},
		{"above", two, 9, 4, waitList(3, 1, 6, 9, 9, 4), true},
		{"waits already, the first one", two, 3, 5, waitList(3, 5, 6, 9), true},
		{"waits already, the last one", two, 6, 1, waitList(3, 1, 6, 1), true},
		{"waits already, for the same one", two, 6, 9, two, true},
		{"all IDs wait", full, 5, 1, waitList(1, 2, 2, 3, 3, 4, 4, 5, 5, 1, 6, 7, 7, 8, 8, 9, 9, 1), true},
		{"the last ID that does not wait", slices.Delete(slices.Clone(full), 8, 9), 9, 1, full, true},
		{"closes a chain of two", two, 1, 3, waitList(1, 3, 3, 1, 6, 9), true},
		{"closes a chain of two, replacing", waitList(1, 2, 3, 1), 1, 3, waitList(1, 3, 3, 1), true},
		{"the same ID", two, 3, 3, two, false},
		{"the same ID, which does not wait", two, 5, 5, two, false},
		{"the ID 0", two, 0, 1, two, false},
		{"an ID beyond", two, 10, 1, two, false},
		{"for the ID 0", two, 3, 0, two, false},
		{"for an ID beyond", two, 3, 10, two, false},
		{"a wait for itself in the list", waitList(4, 4), 4, 5, waitList(4, 4), false},
		{"descending", waitList(6, 9, 3, 1), 3, 5, waitList(6, 9, 3, 1), false},
		{"twice", waitList(3, 1, 3, 2), 3, 5, waitList(3, 1, 3, 2), false},
	} {
		got, ok := impl.SetWait(c.l, c.id, c.owner)
		if ok != c.ok || !slices.Equal(got, c.want) {
			t.Errorf("%s: SetWait(%v, %d, %d) = %v, %t, want %v, %t", c.what, c.l, c.id, c.owner, got, ok, c.want, c.ok)
		}
	}
}

func TestClearWaitsLiterals(t *testing.T) {
	twice := waitList(4, 2, 1, 3, 4, 4, 3, 4, -7, 2, 2, 2, 0, 0)
	for _, c := range []struct {
		what string
		l    []impl.Wait
		id   int
		want []impl.Wait
	}{
		{"no waits", nil, 1, nil},
		{"waits", waitList(1, 2, 3, 4, 5, 6), 3, waitList(1, 2, 5, 6)},
		{"is waited for by one", waitList(1, 2, 3, 4, 5, 6), 4, waitList(1, 2, 5, 6)},
		{"is waited for by several", waitList(1, 9, 2, 3, 4, 9, 7, 9), 9, waitList(2, 3)},
		{"is waited for by all others", waitList(1, 5, 2, 5, 3, 5, 4, 5, 6, 5, 7, 5, 8, 5, 9, 5), 5, nil},
		{"both", waitList(1, 2, 2, 3, 3, 4, 5, 2), 2, waitList(3, 4)},
		{"both, in a closed chain", waitList(1, 2, 2, 1), 1, nil},
		{"neither", waitList(1, 2, 2, 3, 5, 9), 4, waitList(1, 2, 2, 3, 5, 9)},
		{"the ID 0", waitList(1, 2, 2, 3), 0, waitList(1, 2, 2, 3)},
		{"an ID beyond", waitList(1, 2, 2, 3), 10, waitList(1, 2, 2, 3)},
		{"not valid, in both fields and for itself", twice, 4, waitList(1, 3, -7, 2, 2, 2, 0, 0)},
		{"not valid, for itself", twice, 2, waitList(1, 3, 4, 4, 3, 4, 0, 0)},
		{"not valid, out of range", twice, -7, waitList(4, 2, 1, 3, 4, 4, 3, 4, 2, 2, 0, 0)},
		{"not valid, 0", twice, 0, waitList(4, 2, 1, 3, 4, 4, 3, 4, -7, 2, 2, 2)},
	} {
		if got := impl.ClearWaits(c.l, c.id); !slices.Equal(got, c.want) {
			t.Errorf("%s: ClearWaits(%v, %d) = %v, want %v", c.what, c.l, c.id, got, c.want)
		}
	}
}

// invalidWaits returns lists of which each has one reason not to be waits.
func invalidWaits() [][]impl.Wait {
	lists := [][]impl.Wait{
		waitList(2, 1, 2, 1), waitList(2, 1, 2, 3), waitList(1, 2, 1, 9), waitList(9, 1, 9, 2),
		waitList(3, 1, 2, 1), waitList(9, 1, 1, 9), waitList(1, 2, 3, 1, 2, 1), waitList(1, 2, 4, 2, 4, 3), waitList(4, 2, 4, 3, 5, 1),
		append(ringOfAll(), impl.Wait{ID: 9, For: 1}), append(ringOfAll(), impl.Wait{ID: 10, For: 1}), append(waitList(0, 1), ringOfAll()...),
		{{}}, {{}, {}},
	}
	for id := 1; id <= impl.MaxTransactionID; id++ {
		lists = append(lists, waitList(id, id))
	}
	lists = append(lists, waitList(1, 2, 3, 3), waitList(3, 3, 5, 6), waitList(1, 2, 4, 4, 9, 8))
	for _, n := range slices.Concat(farInts, []int{-1, 0, impl.MaxTransactionID + 1, impl.MaxTransactionID + 2}) {
		lists = append(lists, waitList(n, 1), waitList(n, 9), waitList(1, n), waitList(9, n), waitList(n, n))
		lists = append(lists, waitList(1, n, 9, 1), waitList(1, 9, 3, n, 4, 2), waitList(1, 9, 3, 1, 9, n))
		if n <= 0 {
			lists = append(lists, waitList(n, 1, 1, 2), waitList(n, 1, 2, 3, 5, 2))
		} else {
			lists = append(lists, waitList(9, 2, n, 1), waitList(1, 3, 2, 3, n, 2))
		}
	}
	return append(lists, waitList(math.MinInt, math.MaxInt), waitList(math.MaxInt, math.MinInt), waitList(math.MinInt, 1, math.MaxInt, 1))
}

// ringOfAll returns waits of every ID for the next one, of the last one for the first one.
func ringOfAll() []impl.Wait {
	return waitsAlong(1, 2, 3, 4, 5, 6, 7, 8, 9, 1).waits()
}

func TestAreWaits(t *testing.T) {
	valid := [][]impl.Wait{nil, {}, waitList(1, 9, 9, 1), waitList(1, 2, 2, 1), waitList(1, 5, 2, 5, 9, 5), ringOfAll()}
	for id := 1; id <= impl.MaxTransactionID; id++ {
		for owner := 1; owner <= impl.MaxTransactionID; owner++ {
			if owner != id {
				valid = append(valid, waitList(id, owner))
			}
		}
	}
	for _, l := range valid {
		if !impl.AreWaits(l) {
			t.Errorf("AreWaits(%v) = false", l)
		}
	}
	for _, l := range invalidWaits() {
		if impl.AreWaits(l) {
			t.Errorf("AreWaits(%v) = true", l)
		}
	}
}

// areWaits reports what AreWaits should.
func areWaits(l []impl.Wait) bool {
	var ids []int
	for _, w := range l {
		if w.ID < 1 || w.ID > 9 || w.For < 1 || w.For > 9 || w.ID == w.For {
			return false
		}
		ids = append(ids, w.ID)
	}
	return strictlyAscending(ids)
}

func TestShortWaitLists(t *testing.T) {
	var waits []impl.Wait
	for _, id := range []int{0, 1, 4, 9, 10} {
		for _, owner := range []int{0, 1, 4, 9, 10} {
			waits = append(waits, impl.Wait{ID: id, For: owner})
		}
	}
	for _, l := range shortLists(waits) {
		if got := impl.AreWaits(l); got != areWaits(l) {
			t.Errorf("AreWaits(%v) = %t", l, got)
		}
		checkAnyWaits(t, l)
		if !areWaits(l) {
			checkNoWait(t, "invalid waits", l, 4, 9)
			checkNoWait(t, "invalid waits", l, 5, 2)
			checkNoChain(t, l, 4)
			checkNoChain(t, l, 7)
		}
	}
}

// checkAnyWaits checks ClearWaits, which asks for no valid waits.
func checkAnyWaits(t *testing.T, l []impl.Wait) {
	t.Helper()
	before := slices.Clone(l)
	for _, n := range []int{-1, 0, 1, 4, 5, 9, 10, math.MinInt, math.MaxInt} {
		var others []impl.Wait
		for _, w := range l {
			if w.ID != n && w.For != n {
				others = append(others, w)
			}
		}
		if got := impl.ClearWaits(l, n); !slices.Equal(got, others) {
			t.Errorf("ClearWaits(%v, %d) = %v, want %v", before, n, got, others)
		}
	}
	if !slices.Equal(l, before) {
		t.Errorf("ClearWaits changes %v to %v", before, l)
	}
}

func TestInvalidWaits(t *testing.T) {
	for _, l := range invalidWaits() {
		checkAnyWaits(t, l)
		for id := 0; id <= impl.MaxTransactionID+1; id++ {
			checkNoChain(t, l, id)
			for owner := 0; owner <= impl.MaxTransactionID+1; owner++ {
				checkNoWait(t, "invalid waits", l, id, owner)
			}
		}
	}
}

func TestWaitsRefuseNumbers(t *testing.T) {
	numbers := slices.Concat(farInts, []int{-256, -2, -1, 0, 10, 11, 256, 257, 1 << 16, 1<<16 + 1})
	for _, l := range [][]impl.Wait{nil, waitList(3, 4), waitList(1, 9, 9, 1), ringOfAll()} {
		for _, n := range numbers {
			checkNoChain(t, l, n)
			checkNoWait(t, "both", l, n, n)
			if got := impl.ClearWaits(l, n); !slices.Equal(got, l) {
				t.Errorf("ClearWaits(%v, %d) = %v", l, n, got)
			}
			for id := 1; id <= impl.MaxTransactionID; id++ {
				checkNoWait(t, "ID", l, n, id)
				checkNoWait(t, "For", l, id, n)
			}
		}
		for id := 1; id <= impl.MaxTransactionID; id++ {
			checkNoWait(t, "the same ID", l, id, id)
		}
	}
}

func TestWaitsLeaveArguments(t *testing.T) {
	lists := slices.Concat(invalidWaits(), [][]impl.Wait{nil, {}, waitList(3, 4), waitList(1, 4, 4, 5), waitList(4, 1, 7, 4), ringOfAll(), waitList(1, 4, 2, 4, 3, 4)})
	mark := impl.Wait{ID: 8, For: 7}
	numbers := []int{math.MinInt, 0, 1, 4, 7, 9, 10, math.MaxInt}
	for _, l := range lists {
		for _, id := range numbers {
			for _, owner := range numbers {
				checkListKept(t, "SetWait", l, mark, func(part []impl.Wait) []impl.Wait {
					got, _ := impl.SetWait(part, id, owner)
					return got
				})
				checkListKept(t, "WouldDeadlock", l, mark, func(part []impl.Wait) []impl.Wait {
					impl.WouldDeadlock(part, id, owner)
					return nil
				})
			}
			checkListKept(t, "ClearWaits", l, mark, func(part []impl.Wait) []impl.Wait { return impl.ClearWaits(part, id) })
			checkListKept(t, "the others", l, mark, func(part []impl.Wait) []impl.Wait {
				impl.AreWaits(part)
				impl.WaitChain(part, id)
				return nil
			})
		}
	}
}
