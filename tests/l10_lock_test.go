package tests

import (
	"math"
	"math/rand"
	"slices"
	"testing"

	"loop.example/g01924/impl"
)

// owners has the owner of every key, 0 where there is none: the definition of locks.
type owners [impl.MaxKeys]int

func (o owners) locks() []impl.Lock {
	var l []impl.Lock
	for key, owner := range o {
		if owner != 0 {
			l = append(l, impl.Lock{Key: key, Owner: owner})
		}
	}
	return l
}

func (o owners) keysOf(owner int) []int {
	var keys []int
	for key, other := range o {
		if other == owner {
			keys = append(keys, key)
		}
	}
	return keys
}

func (o owners) without(owner int) owners {
	for _, key := range o.keysOf(owner) {
		o[key] = 0
	}
	return o
}

// ownersFrom returns every choice of an owner among the given ones, or none, for every key.
func ownersFrom(among ...int) []owners {
	all := []owners{{}}
	for key := range impl.MaxKeys {
		for _, o := range slices.Clone(all) {
			for _, owner := range among {
				o[key] = owner
				all = append(all, o)
			}
		}
	}
	return all
}

// lockList returns locks of the pairs of a key and an owner.
func lockList(pairs ...int) []impl.Lock {
	var l []impl.Lock
	for i := 0; i < len(pairs); i += 2 {
		l = append(l, impl.Lock{Key: pairs[i], Owner: pairs[i+1]})
	}
	return l
}

// checkListKept calls with a part of a longer list, and fails if the list changes at the call or when the result is overwritten.
func checkListKept[T comparable](t *testing.T, what string, l []T, mark T, call func(part []T) []T) {
	t.Helper()
	whole := append(slices.Clone(l), mark, mark, mark, mark)
	before := slices.Clone(whole)
	got := call(whole[:len(l)])
	if !slices.Equal(whole, before) {
		t.Errorf("%s: the argument %v is changed to %v", what, before, whole)
	}
	var zero T
	got = got[:cap(got)]
	for i := range got {
		got[i] = zero
	}
	if !slices.Equal(whole, before) {
		t.Errorf("%s: writing into the result changes the argument %v to %v", what, before, whole)
	}
}

func checkAcquired(t *testing.T, o owners, key, owner int) {
	t.Helper()
	want, granted := o, o[key] == 0 || o[key] == owner
	if granted {
		want[key] = owner
	}
	l := o.locks()
	got, ok := impl.AcquireLock(l, key, owner)
	if ok != granted || !slices.Equal(got, want.locks()) {
		t.Errorf("AcquireLock(%v, %d, %d) = %v, %t, want %v, %t", l, key, owner, got, ok, want.locks(), granted)
	}
	if !slices.Equal(l, o.locks()) {
		t.Errorf("AcquireLock(%v, %d, %d) changes the locks to %v", o.locks(), key, owner, l)
	}
	if granted {
		checkGranted(t, o, got, key, owner)
	}
}

// checkGranted checks what promise 8 says of a lock that is granted; o are the owners before.
func checkGranted(t *testing.T, o owners, l []impl.Lock, key, owner int) {
	t.Helper()
	if !impl.AreLocks(l) || impl.LockOwner(l, key) != owner {
		t.Errorf("AreLocks(%v) = %t, and the owner of the key %d is %d, want true and %d", l, impl.AreLocks(l), key, impl.LockOwner(l, key), owner)
	}
	for other := 1; other <= impl.MaxTransactionID; other++ {
		if same, ok := impl.AcquireLock(l, key, other); ok != (other == owner) || !slices.Equal(same, l) {
			t.Errorf("AcquireLock(%v, %d, %d) = %v, %t although the owner is %d", l, key, other, same, ok, owner)
		}
	}
	released := impl.ReleaseLocks(l, owner)
	if impl.LockOwner(released, key) != 0 || len(impl.LocksOf(released, owner)) != 0 {
		t.Errorf("after ReleaseLocks(%v, %d) the locks are %v", l, owner, released)
	}
	for other := range impl.MaxKeys {
		if other != key && impl.LockOwner(l, other) != o[other] {
			t.Errorf("the owner of the key %d in %v is %d, want %d as before", other, l, impl.LockOwner(l, other), o[other])
		}
		if o[other] != owner && other != key && impl.LockOwner(released, other) != o[other] {
			t.Errorf("the owner of the key %d in %v is %d, want %d as before", other, released, impl.LockOwner(released, other), o[other])
		}
	}
}

func checkNoLock(t *testing.T, what string, l []impl.Lock, key, owner int) {
	t.Helper()
	before := slices.Clone(l)
	got, ok := impl.AcquireLock(l, key, owner)
	if ok || !slices.Equal(got, before) || !slices.Equal(l, before) {
		t.Errorf("%s: AcquireLock(%v, %d, %d) = %v, %t, want the locks and false; the argument is %v afterwards", what, before, key, owner, got, ok, l)
	}
}

func TestAcquireLockOfEveryKey(t *testing.T) {
	for _, o := range ownersFrom(1, 2, 9) {
		for key := range impl.MaxKeys {
			for _, owner := range []int{1, 2, 5, 9} {
				checkAcquired(t, o, key, owner)
			}
		}
	}
}

func TestAcquireLockOfEveryOwner(t *testing.T) {
	for first := 1; first <= impl.MaxTransactionID; first++ {
		for second := 1; second <= impl.MaxTransactionID; second++ {
			for owner := 1; owner <= impl.MaxTransactionID; owner++ {
				for key := range impl.MaxKeys {
					checkAcquired(t, owners{1: first, 4: second}, key, owner)
				}
			}
		}
	}
}

func TestAcquireLockLiterals(t *testing.T) {
	two := lockList(2, 7, 4, 3)
	full := lockList(0, 1, 1, 2, 2, 3, 3, 4, 4, 5, 5, 6)
	for _, c := range []struct {
		what       string
		l          []impl.Lock
		key, owner int
		want       []impl.Lock
		ok         bool
	}{
		{"nil", nil, 0, 1, lockList(0, 1), true},
		{"no locks", []impl.Lock{}, 5, 9, lockList(5, 9), true},
		{"below", two, 0, 1, lockList(0, 1, 2, 7, 4, 3), true},
		{"just below", two, 1, 7, lockList(1, 7, 2, 7, 4, 3), true},
		{"between", two, 3, 9, lockList(2, 7, 3, 9, 4, 3), true},
		{"above", two, 5, 3, lockList(2, 7, 4, 3, 5, 3), true},
		{"the last free key", lockList(0, 1, 1, 2, 2, 3, 4, 5, 5, 6), 3, 1, lockList(0, 1, 1, 2, 2, 3, 3, 1, 4, 5, 5, 6), true},
		{"its owner again", two, 2, 7, two, true},
		{"its owner again, the second lock", two, 4, 3, two, true},
		{"every key locked, its owner again", full, 5, 6, full, true},
		{"another owner", two, 2, 3, two, false},
		{"another owner, the second lock", two, 4, 7, two, false},
		{"every key locked", full, 0, 2, full, false},
		{"every key locked, an owner without a lock", full, 3, 9, full, false},
	} {
		got, ok := impl.AcquireLock(c.l, c.key, c.owner)
		if ok != c.ok || !slices.Equal(got, c.want) {
			t.Errorf("%s: AcquireLock(%v, %d, %d) = %v, %t, want %v, %t", c.what, c.l, c.key, c.owner, got, ok, c.want, c.ok)
		}
	}
}

func TestAcquireLockAgain(t *testing.T) {
	for _, o := range ownersFrom(1, 4, 9) {
		l := o.locks()
		for _, lock := range o.locks() {
			for range 3 {
				var ok bool
				if l, ok = impl.AcquireLock(l, lock.Key, lock.Owner); !ok {
					t.Errorf("the owner of %v is refused in %v", lock, o.locks())
				}
			}
		}
		if !slices.Equal(l, o.locks()) {
			t.Errorf("%v are %v after their owners have acquired them again", o.locks(), l)
		}
	}
}

func TestAcquireLockInEveryOrder(t *testing.T) {
	for _, order := range permutations(impl.MaxKeys) {
		var l []impl.Lock
		var o owners
		for i, key := range order {
			o[key] = i + 2
			l, _ = impl.AcquireLock(l, key, i+2)
			if !slices.Equal(l, o.locks()) {
				t.Fatalf("the locks are %v after the first %d acquisitions of %v, want %v", l, i+1, order, o.locks())
			}
		}
		for i, key := range order {
			o[key] = 0
			if l = impl.ReleaseLocks(l, i+2); !slices.Equal(l, o.locks()) {
				t.Fatalf("the locks are %v after the first %d releases of %v, want %v", l, i+1, order, o.locks())
			}
		}
	}
}

func TestRandomLocks(t *testing.T) {
	random := rand.New(rand.NewSource(10))
	for range 300 {
		var l []impl.Lock
		var o owners
		for range 40 {
			key, owner := random.Intn(impl.MaxKeys), 1+random.Intn(impl.MaxTransactionID)
			if random.Intn(6) == 0 {
				o, l = o.without(owner), impl.ReleaseLocks(l, owner)
			} else {
				checkAcquired(t, o, key, owner)
				var ok bool
				if l, ok = impl.AcquireLock(l, key, owner); ok {
					o[key] = owner
				}
			}
			checkOwners(t, l, o)
		}
	}
}

func checkOwners(t *testing.T, l []impl.Lock, o owners) {
	t.Helper()
	if !impl.AreLocks(l) || !slices.Equal(l, o.locks()) {
		t.Fatalf("the locks are %v, want %v", l, o.locks())
	}
	for key, owner := range o {
		if got := impl.LockOwner(l, key); got != owner {
			t.Errorf("LockOwner(%v, %d) = %d, want %d", l, key, got, owner)
		}
	}
	for owner := 1; owner <= impl.MaxTransactionID; owner++ {
		if got := impl.LocksOf(l, owner); !slices.Equal(got, o.keysOf(owner)) {
			t.Errorf("LocksOf(%v, %d) = %v, want %v", l, owner, got, o.keysOf(owner))
		}
		if got := impl.ReleaseLocks(l, owner); !slices.Equal(got, o.without(owner).locks()) {
			t.Errorf("ReleaseLocks(%v, %d) = %v, want %v", l, owner, got, o.without(owner).locks())
		}
	}
}

func TestLocksOfEveryKey(t *testing.T) {
	for _, o := range ownersFrom(1, 2, 9) {
		checkOwners(t, o.locks(), o)
	}
}

func TestAcquireLockRefusesNumbers(t *testing.T) {
	lists := [][]impl.Lock{nil, lockList(3, 4), lockList(0, 1, 5, 9), owners{1, 2, 3, 4, 5, 6}.locks()}
	numbers := slices.Concat(farInts, []int{-2, -1, 1000, 256, 257, 1 << 16, 1<<16 + 1})
	for _, l := range lists {
		for _, n := range slices.Concat(numbers, []int{6, 7}) {
			checkNoLock(t, "key", l, n, 1)
			checkNoLock(t, "key", l, n, 9)
		}
		for _, n := range slices.Concat(numbers, []int{0, 10, 11}) {
			checkNoLock(t, "owner", l, 2, n)
			checkNoLock(t, "owner", l, 3, n)
			checkNoLock(t, "both", l, n, n)
		}
	}
}

// invalidLocks returns lists of which each has one reason not to be locks.
func invalidLocks() [][]impl.Lock {
	lists := [][]impl.Lock{
		lockList(2, 1, 2, 1), lockList(2, 1, 2, 3), lockList(0, 1, 0, 2), lockList(5, 1, 5, 9),
		lockList(3, 1, 2, 1), lockList(5, 9, 0, 1), lockList(0, 1, 2, 1, 1, 1), lockList(0, 1, 4, 2, 4, 3), lockList(4, 2, 4, 3, 5, 1),
		lockList(0, 1, 1, 1, 2, 1, 3, 1, 4, 1, 5, 1, 5, 1), lockList(0, 1, 1, 1, 2, 1, 3, 1, 5, 1, 4, 1), lockList(1, 1, 0, 1, 2, 1, 3, 1, 4, 1, 5, 1),
		lockList(0, 1, 1, 1, 2, 1, 3, 1, 4, 1, 5, 1, 6, 1), lockList(-1, 1, 0, 1, 1, 1, 2, 1, 3, 1, 4, 1, 5, 1),
		{{}}, {{}, {}},
	}
	for _, n := range slices.Concat(farInts, []int{-1, impl.MaxKeys, impl.MaxKeys + 1}) {
		lists = append(lists, lockList(n, 1), lockList(n, 9, n, 9))
		if n < 0 {
			lists = append(lists, lockList(n, 1, 0, 2), lockList(n, 1, 2, 3, 5, 2))
		} else {
			lists = append(lists, lockList(5, 2, n, 1), lockList(0, 3, 2, 3, n, 2))
		}
	}
	for _, n := range slices.Concat(farInts, []int{-1, 0, impl.MaxTransactionID + 1, impl.MaxTransactionID + 2}) {
		lists = append(lists, lockList(0, n), lockList(5, n), lockList(0, n, 5, 1), lockList(0, 9, 3, n, 4, 2), lockList(0, 9, 3, 1, 5, n))
	}
	return append(lists, lockList(math.MinInt, math.MinInt), lockList(math.MaxInt, math.MaxInt), lockList(math.MinInt, 1, math.MaxInt, 1))
}

func TestAreLocks(t *testing.T) {
	valid := [][]impl.Lock{
		nil, {}, lockList(0, 1), lockList(5, 9), lockList(0, 9, 5, 1), lockList(0, 5, 1, 5), lockList(1, 1, 2, 9, 5, 1),
		lockList(0, 1, 1, 1, 2, 1, 3, 1, 4, 1, 5, 1), lockList(0, 9, 1, 8, 2, 7, 3, 6, 4, 5, 5, 4),
	}
	for _, l := range valid {
		if !impl.AreLocks(l) {
			t.Errorf("AreLocks(%v) = false", l)
		}
	}
	for _, l := range invalidLocks() {
		if impl.AreLocks(l) {
			t.Errorf("AreLocks(%v) = true", l)
		}
	}
}

// shortLockLists returns all lists of up to three locks of some keys and owners, the limits and what is beyond them included.
func shortLockLists() [][]impl.Lock {
	var locks []impl.Lock
	for _, key := range []int{-1, 0, 4, 5, 6} {
		for _, owner := range []int{0, 1, 9, 10} {
			locks = append(locks, impl.Lock{Key: key, Owner: owner})
		}
	}
	return shortLists(locks)
}

// shortLists returns all lists of up to three of the elements.
func shortLists[T any](elements []T) [][]T {
	lists, last := [][]T{nil}, [][]T{nil}
	for range 3 {
		var longer [][]T
		for _, l := range last {
			for _, element := range elements {
				longer = append(longer, append(slices.Clone(l), element))
			}
		}
		lists, last = append(lists, longer...), longer
	}
	return lists
}

func areLocks(l []impl.Lock) bool {
	var keys []int
	for _, lock := range l {
		if lock.Key < 0 || lock.Key > 5 || lock.Owner < 1 || lock.Owner > 9 {
			return false
		}
		keys = append(keys, lock.Key)
	}
	return strictlyAscending(keys)
}

func TestShortLockLists(t *testing.T) {
	for _, l := range shortLockLists() {
		if got := impl.AreLocks(l); got != areLocks(l) {
			t.Errorf("AreLocks(%v) = %t", l, got)
		}
		checkAnyLocks(t, l)
		if !areLocks(l) {
			for _, lock := range l {
				checkNoLock(t, "invalid locks", l, lock.Key, lock.Owner)
			}
			checkNoLock(t, "invalid locks", l, 2, 3)
		}
	}
}

// checkAnyLocks checks the functions that ask for no valid locks.
func checkAnyLocks(t *testing.T, l []impl.Lock) {
	t.Helper()
	before := slices.Clone(l)
	for _, n := range []int{-1, 0, 1, 4, 5, 6, 9, 10, math.MinInt, math.MaxInt} {
		owner := 0
		for i := len(l) - 1; i >= 0; i-- {
			if l[i].Key == n {
				owner = l[i].Owner
			}
		}
		var others []impl.Lock
		var keys []int
		for _, lock := range l {
			if lock.Owner == n {
				keys = append(keys, lock.Key)
			} else {
				others = append(others, lock)
			}
		}
		if got := impl.LockOwner(l, n); got != owner {
			t.Errorf("LockOwner(%v, %d) = %d, want %d", l, n, got, owner)
		}
		if got := impl.ReleaseLocks(l, n); !slices.Equal(got, others) {
			t.Errorf("ReleaseLocks(%v, %d) = %v, want %v", l, n, got, others)
		}
		if got := impl.LocksOf(l, n); !slices.Equal(got, keys) {
			t.Errorf("LocksOf(%v, %d) = %v, want %v", l, n, got, keys)
		}
	}
	if !slices.Equal(l, before) {
		t.Errorf("%v are changed to %v", before, l)
	}
}

func TestInvalidLocks(t *testing.T) {
	for _, l := range invalidLocks() {
		checkAnyLocks(t, l)
		for key := -1; key <= impl.MaxKeys; key++ {
			for owner := 0; owner <= impl.MaxTransactionID+1; owner++ {
				checkNoLock(t, "invalid locks", l, key, owner)
			}
		}
	}
}

func TestLockLiterals(t *testing.T) {
	twice := lockList(4, 2, 1, 3, 4, 3, 1, 3, -7, 2, 1, 0)
	for _, c := range []struct {
		l         []impl.Lock
		key, want int
	}{
		{nil, 0, 0}, {lockList(2, 7), 2, 7}, {lockList(2, 7), 7, 0}, {lockList(2, 7), 3, 0}, {lockList(2, 7, 4, 3), 4, 3}, {lockList(2, 7), -1, 0}, {lockList(2, 7), 6, 0},
		{twice, 4, 2}, {twice, 1, 3}, {twice, -7, 2}, {twice, 0, 0},
		{lockList(3, 0), 3, 0}, {lockList(3, 0, 3, 5), 3, 0}, {lockList(6, 5), 6, 5}, {lockList(3, math.MinInt), 3, math.MinInt}, {lockList(math.MaxInt, 3), math.MaxInt, 3},
	} {
		if got := impl.LockOwner(c.l, c.key); got != c.want {
			t.Errorf("LockOwner(%v, %d) = %d, want %d", c.l, c.key, got, c.want)
		}
	}
	for _, c := range []struct {
		l         []impl.Lock
		owner     int
		keys      []int
		remaining []impl.Lock
	}{
		{nil, 1, nil, nil},
		{lockList(0, 1, 2, 7, 3, 1, 5, 1), 1, []int{0, 3, 5}, lockList(2, 7)},
		{lockList(0, 1, 2, 7, 3, 1, 5, 1), 7, []int{2}, lockList(0, 1, 3, 1, 5, 1)},
		{lockList(0, 1, 2, 7, 3, 1, 5, 1), 2, nil, lockList(0, 1, 2, 7, 3, 1, 5, 1)},
		{lockList(0, 4, 1, 4), 4, []int{0, 1}, nil},
		{twice, 3, []int{1, 4, 1}, lockList(4, 2, -7, 2, 1, 0)},
		{twice, 2, []int{4, -7}, lockList(1, 3, 4, 3, 1, 3, 1, 0)},
		{twice, 0, []int{1}, lockList(4, 2, 1, 3, 4, 3, 1, 3, -7, 2)},
	} {
		if got := impl.LocksOf(c.l, c.owner); !slices.Equal(got, c.keys) {
			t.Errorf("LocksOf(%v, %d) = %v, want %v", c.l, c.owner, got, c.keys)
		}
		if got := impl.ReleaseLocks(c.l, c.owner); !slices.Equal(got, c.remaining) {
			t.Errorf("ReleaseLocks(%v, %d) = %v, want %v", c.l, c.owner, got, c.remaining)
		}
	}
}

func TestLocksLeaveArguments(t *testing.T) {
	lists := slices.Concat(invalidLocks(), [][]impl.Lock{nil, {}, lockList(3, 4), lockList(1, 4, 3, 5), owners{1, 2, 3, 4, 5, 6}.locks(), owners{4, 4, 4, 4, 4, 4}.locks()})
	mark := impl.Lock{Key: 2, Owner: 7}
	for _, l := range lists {
		for key := -1; key <= impl.MaxKeys; key++ {
			for _, owner := range []int{0, 1, 4, 7, 9, 10} {
				checkListKept(t, "AcquireLock", l, mark, func(part []impl.Lock) []impl.Lock {
					got, _ := impl.AcquireLock(part, key, owner)
					return got
				})
			}
		}
		for _, owner := range []int{0, 1, 4, 7, 9, 10} {
			checkListKept(t, "ReleaseLocks", l, mark, func(part []impl.Lock) []impl.Lock { return impl.ReleaseLocks(part, owner) })
			checkListKept(t, "the others", l, mark, func(part []impl.Lock) []impl.Lock {
				impl.AreLocks(part)
				impl.LockOwner(part, owner)
				impl.LocksOf(part, owner)
				return nil
			})
		}
	}
}
