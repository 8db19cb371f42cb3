package tests

import (
	"fmt"
	"math"
	"math/rand"
	"slices"
	"testing"

	"loop.example/g01924/impl"
)

// chainsOf returns a store with copies of these chains, so that stores of one test share no memory.
func chainsOf(chains ...[]impl.Version) impl.Store {
	return cloneStore(impl.Store{Chains: chains})
}

func cloneStore(s impl.Store) impl.Store {
	chains := make([][]impl.Version, len(s.Chains))
	for i, l := range s.Chains {
		chains[i] = slices.Clone(l)
	}
	return impl.Store{Chains: chains}
}

// spreadChain returns a valid chain of n versions, the first one with this Created and each with the given distance to the next.
func spreadChain(n, created, distance int) []impl.Version {
	l := longChain(n)
	for i := range l {
		l[i] = version(i%9+1, i%101-1, created, created+i%2, created+distance)
		if created == 0 {
			l[i] = version(0, -1, 0, 0, distance)
		}
		created += distance
	}
	l[n-1].Successor = 1000
	return l
}

// initialChain returns the chain of a key without writes.
func initialChain(reader int) []impl.Version {
	return []impl.Version{version(0, -1, 0, reader, 1000)}
}

// mixedStore returns a store with chains of one, two, three and 50 versions.
func mixedStore() impl.Store {
	return chainsOf(
		initialChain(4),
		[]impl.Version{version(0, -1, 0, 8, 3), version(1, 5, 7, 9, 1000)},
		[]impl.Version{version(0, -1, 0, 0, 1), version(2, 99, 1, 6, 7), version(3, -1, 7, 7, 1000)},
		spreadChain(50, 0, 13),
		longChain(50),
		[]impl.Version{version(0, -1, 0, 2, 2), version(9, 0, 3, 640, 1000)},
	)
}

// validStores returns stores by name, some of which have keys whose initial version is not there any more.
func validStores() map[string]impl.Store {
	collected := mixedStore()
	collected.Chains[1] = collected.Chains[1][1:]
	collected.Chains[4] = spreadChain(50, 12, 20)
	last := mixedStore()
	last.Chains[0] = []impl.Version{version(0, -1, 0, 999, 1), version(4, 7, 999, 999, 1000)}
	return map[string]impl.Store{
		"new":       impl.NewStore(),
		"mixed":     mixedStore(),
		"collected": collected,
		"last":      last,
		"first key": chainsOf(spreadChain(2, 500, 1), initialChain(0), initialChain(0), initialChain(0), initialChain(0), initialChain(0)),
		"last key":  chainsOf(initialChain(0), initialChain(0), initialChain(0), initialChain(0), initialChain(0), spreadChain(1, 999, 1)),
		"full":      chainsOf(longChain(50), longChain(50), longChain(50), longChain(50), longChain(50), longChain(50)),
	}
}

// visibleVersion finds the version by the definition: of those that are not after the stamp, the one with the greatest Created.
func visibleVersion(l []impl.Version, stamp int) (impl.Version, bool) {
	found, ok := impl.Version{}, false
	for _, v := range l {
		if v.Created <= stamp && (!ok || v.Created > found.Created) {
			found, ok = v, true
		}
	}
	return found, ok
}

// visibleState returns the state by the definition, or nil if a key has no visible version.
func visibleState(s impl.Store, stamp int) []int {
	var state []int
	for _, l := range s.Chains {
		v, ok := visibleVersion(l, stamp)
		if !ok {
			return nil
		}
		state = append(state, v.Value)
	}
	return state
}

func greatestStamp(s impl.Store) int {
	greatest := 0
	for _, l := range s.Chains {
		for _, v := range l {
			greatest = max(greatest, v.Created, v.Reader)
		}
	}
	return greatest
}

func checkStateAt(t *testing.T, name string, s impl.Store, stamp int) {
	t.Helper()
	if got, want := impl.StateAt(s, stamp), visibleState(s, stamp); !slices.Equal(got, want) {
		t.Errorf("%s: StateAt(%d) = %v, want %v", name, stamp, got, want)
	}
	for key, l := range s.Chains {
		want, wantOK := visibleVersion(l, stamp)
		if got, ok := impl.ReadAt(s, key, stamp); got != want || ok != wantOK {
			t.Errorf("%s: ReadAt(%d, %d) = %v, %t, want %v, %t", name, key, stamp, got, ok, want, wantOK)
		}
	}
}

func TestStoreConstants(t *testing.T) {
	if impl.MaxKeys != 6 {
		t.Error("MaxKeys", impl.MaxKeys)
	}
}

func TestStateAtEveryStamp(t *testing.T) {
	for name, s := range validStores() {
		if !impl.IsValidStore(s) {
			t.Fatal("not valid:", name)
		}
		for stamp := -2; stamp <= impl.MaxStamp+2; stamp++ {
			checkStateAt(t, name, s, stamp)
		}
		for _, stamp := range []int{math.MinInt, math.MinInt + 1, -1 << 32, 1 << 32, math.MaxInt - 1, math.MaxInt} {
			checkStateAt(t, name, s, stamp)
		}
	}
}

func TestStateAtLastStampIsTheLatest(t *testing.T) {
	for name, s := range validStores() {
		var latest []int
		for key, l := range s.Chains {
			v, ok := impl.ReadLatest(s, key)
			if v != l[len(l)-1] || !ok {
				t.Errorf("%s: ReadLatest(%d) = %v, %t", name, key, v, ok)
			}
			latest = append(latest, v.Value)
		}
		last := impl.LastStamp(s)
		for _, stamp := range []int{last, last + 1, impl.MaxStamp, impl.Infinity, math.MaxInt} {
			if got := impl.StateAt(s, stamp); !slices.Equal(got, latest) {
				t.Errorf("%s: StateAt(%d) = %v, want the latest values %v", name, stamp, got, latest)
			}
		}
	}
}

func TestStateBeforeTheFirstVersionIsEmpty(t *testing.T) {
	for key := range impl.MaxKeys {
		s := mixedStore()
		s.Chains[key] = []impl.Version{version(1, 5, 100, 120, 120), version(2, 6, 130, 130, 1000)}
		for _, stamp := range []int{math.MinInt, -1, 0, 1, 99} {
			if got := impl.StateAt(s, stamp); len(got) != 0 {
				t.Errorf("StateAt(%d) = %v where key %d begins at 100", stamp, got, key)
			}
			if got, ok := impl.ReadAt(s, key, stamp); got != (impl.Version{}) || ok {
				t.Errorf("ReadAt(%d, %d) = %v, %t where the key begins at 100", key, stamp, got, ok)
			}
		}
		for stamp, want := range map[int]int{100: 5, 129: 5, 130: 6, 131: 6, math.MaxInt: 6} {
			if got := impl.StateAt(s, stamp); len(got) != impl.MaxKeys || got[key] != want {
				t.Errorf("StateAt(%d) = %v, want %d for key %d", stamp, got, want, key)
			}
		}
	}
	for name, s := range validStores() {
		for _, stamp := range []int{math.MinInt, -1 << 32, -1000, -1} {
			if got := impl.StateAt(s, stamp); len(got) != 0 {
				t.Errorf("%s: StateAt(%d) = %v", name, stamp, got)
			}
		}
	}
}

func TestStateOfRandomStores(t *testing.T) {
	random := rand.New(rand.NewSource(4))
	for range 300 {
		var chains [][]impl.Version
		for range impl.MaxKeys {
			chains = append(chains, spreadChain(1+random.Intn(5), random.Intn(3), 1+random.Intn(4)))
		}
		s := chainsOf(chains...)
		if !impl.IsValidStore(s) {
			t.Fatal("not valid:", s)
		}
		for stamp := -1; stamp <= 24; stamp++ {
			checkStateAt(t, fmt.Sprint(s), s, stamp)
		}
		if got, want := impl.LastStamp(s), greatestStamp(s); got != want {
			t.Errorf("LastStamp(%v) = %d, want %d", s, got, want)
		}
	}
}

func TestKeyWithoutWrites(t *testing.T) {
	for _, reader := range []int{0, 1, 999} {
		s := mixedStore()
		for _, key := range []int{0, 2, 5} {
			s.Chains[key] = initialChain(reader)
		}
		for _, key := range []int{0, 2, 5} {
			want := version(0, -1, 0, reader, 1000)
			if got, ok := impl.ReadLatest(s, key); got != want || !ok {
				t.Errorf("ReadLatest(%d) = %v, %t", key, got, ok)
			}
			for _, stamp := range []int{0, 1, impl.MaxStamp, math.MaxInt} {
				if got, ok := impl.ReadAt(s, key, stamp); got != want || !ok {
					t.Errorf("ReadAt(%d, %d) = %v, %t", key, stamp, got, ok)
				}
				if got := impl.StateAt(s, stamp); len(got) != impl.MaxKeys || got[key] != impl.Absent {
					t.Errorf("StateAt(%d) = %v", stamp, got)
				}
			}
			if got, ok := impl.ReadAt(s, key, -1); got != (impl.Version{}) || ok {
				t.Errorf("ReadAt(%d, -1) = %v, %t", key, got, ok)
			}
		}
		for stamp, want := range map[int]string{0: "- - - - - -", 1: "- - - - 0 -", 7: "- 5 - - 6 -", 13: "- 5 - 0 12 -"} {
			if got := impl.FormatState(impl.StateAt(s, stamp)); got != want {
				t.Errorf("the state at %d is %q, want %q", stamp, got, want)
			}
		}
	}
}

func TestNewStore(t *testing.T) {
	s := impl.NewStore()
	if !impl.IsValidStore(s) || len(s.Chains) != impl.MaxKeys || impl.LastStamp(s) != 0 || impl.CountVersions(s) != impl.MaxKeys {
		t.Error("the new store:", s)
	}
	want := []impl.Version{version(0, impl.Absent, 0, 0, impl.Infinity)}
	for key, l := range s.Chains {
		if !slices.Equal(l, want) {
			t.Errorf("the new chain of key %d: %v", key, l)
		}
	}
	for _, stamp := range []int{0, 1, impl.MaxStamp, math.MaxInt} {
		if got := impl.FormatState(impl.StateAt(s, stamp)); got != "- - - - - -" {
			t.Errorf("the new state at %d: %q", stamp, got)
		}
	}
}

func TestKeysThatDoNotExist(t *testing.T) {
	for name, s := range validStores() {
		for _, key := range []int{-1, impl.MaxKeys, impl.MaxKeys + 1, -impl.MaxKeys, 1 << 32, -1 << 32, math.MinInt, math.MaxInt} {
			if got, ok := impl.ReadLatest(s, key); got != (impl.Version{}) || ok {
				t.Errorf("%s: ReadLatest(%d) = %v, %t", name, key, got, ok)
			}
			for _, stamp := range []int{math.MinInt, -1, 0, 7, impl.MaxStamp, math.MaxInt} {
				if got, ok := impl.ReadAt(s, key, stamp); got != (impl.Version{}) || ok {
					t.Errorf("%s: ReadAt(%d, %d) = %v, %t", name, key, stamp, got, ok)
				}
			}
		}
	}
}

// invalidStores returns stores in each of which one thing is wrong, the last one with more versions than a chain may have in all keys.
func invalidStores() []impl.Store {
	s := mixedStore()
	stores := []impl.Store{
		{}, {Chains: [][]impl.Version{}}, {Chains: make([][]impl.Version, impl.MaxKeys)}, {Chains: make([][]impl.Version, impl.MaxKeys+1)},
		chainsOf(s.Chains[0]), chainsOf(s.Chains[:5]...), chainsOf(s.Chains[1:]...), chainsOf(append(mixedStore().Chains, initialChain(0))...),
		chainsOf(append(mixedStore().Chains, nil)...), chainsOf(append(mixedStore().Chains, mixedStore().Chains...)...),
	}
	replace := func(key int, l []impl.Version) {
		x := mixedStore()
		x.Chains[key] = l
		stores = append(stores, x)
	}
	for key := range impl.MaxKeys {
		replace(key, nil)
		replace(key, []impl.Version{})
		replace(key, []impl.Version{{}})
		replace(key, longChain(51))
		replace(key, spreadChain(51, 3, 2))
		replace(key, longChain(1000))
	}
	for i, l := range invalidChains() {
		replace(i%impl.MaxKeys, l)
	}
	long := longChain(51)
	return append(stores, chainsOf(long, long, long, long, long, long))
}

func TestInvalidStores(t *testing.T) {
	for _, s := range invalidStores() {
		if impl.IsValidStore(s) {
			t.Error("valid:", s)
		}
		if got := impl.LastStamp(s); got != 0 {
			t.Errorf("LastStamp(%v) = %d", s, got)
		}
		for _, key := range []int{math.MinInt, -1, 0, 1, 2, 3, 4, 5, 6, math.MaxInt} {
			if got, ok := impl.ReadLatest(s, key); got != (impl.Version{}) || ok {
				t.Errorf("ReadLatest(%v, %d) = %v, %t", s, key, got, ok)
			}
			for _, stamp := range []int{math.MinInt, -1, 0, 7, impl.MaxStamp, math.MaxInt} {
				if got, ok := impl.ReadAt(s, key, stamp); got != (impl.Version{}) || ok {
					t.Errorf("ReadAt(%v, %d, %d) = %v, %t", s, key, stamp, got, ok)
				}
			}
		}
		for _, stamp := range []int{math.MinInt, -1, 0, 7, impl.MaxStamp, math.MaxInt} {
			if got := impl.StateAt(s, stamp); len(got) != 0 {
				t.Errorf("StateAt(%v, %d) = %v", s, stamp, got)
			}
		}
		if !impl.EqualStores(s, cloneStore(s)) || impl.EqualStores(s, mixedStore()) {
			t.Error("EqualStores:", s)
		}
	}
}

func TestFiftyVersionsAreAllowed(t *testing.T) {
	for key := range impl.MaxKeys {
		s := impl.NewStore()
		for n, want := range map[int]bool{1: true, 49: true, 50: true, 51: false, 52: false, 100: false, 101: false} {
			s.Chains[key] = longChain(n)
			if got := impl.IsValidStore(s); got != want {
				t.Errorf("with %d versions of key %d IsValidStore is %t", n, key, got)
			}
		}
	}
}

func TestCountVersions(t *testing.T) {
	one := []impl.Version{{}}
	cases := []struct {
		s    impl.Store
		want int
	}{
		{impl.Store{}, 0}, {impl.Store{Chains: [][]impl.Version{}}, 0}, {impl.Store{Chains: [][]impl.Version{nil, {}}}, 0},
		{chainsOf(one), 1}, {chainsOf(one, nil, one), 2}, {chainsOf(one, one, one, one, one, one, one, one), 8},
		{chainsOf(longChain(51)), 51}, {chainsOf(longChain(1000), nil, longChain(3)), 1003},
		{impl.NewStore(), 6}, {mixedStore(), 108}, {chainsOf([]impl.Version{version(-1, -5, math.MinInt, math.MaxInt, 0), {}}), 2},
	}
	for _, c := range cases {
		if got := impl.CountVersions(c.s); got != c.want {
			t.Errorf("CountVersions(%v) = %d, want %d", c.s, got, c.want)
		}
	}
}

func TestLastStamp(t *testing.T) {
	for name, s := range validStores() {
		if got, want := impl.LastStamp(s), greatestStamp(s); got != want {
			t.Errorf("%s: LastStamp = %d, want %d", name, got, want)
		}
	}
	cases := map[string]struct {
		l    []impl.Version
		want int
	}{
		"Reader of the only version":   {initialChain(1), 1},
		"greatest Reader":              {initialChain(999), 999},
		"Reader of the first of two":   {[]impl.Version{version(0, -1, 0, 40, 3), version(1, 5, 7, 9, 1000)}, 40},
		"Reader of the second of four": {[]impl.Version{version(0, -1, 0, 1, 1), version(1, 5, 2, 30, 3), version(2, 6, 4, 29, 5), version(3, 7, 6, 8, 1000)}, 30},
		"Reader of the last version":   {[]impl.Version{version(0, -1, 0, 8, 3), version(1, 5, 7, 9, 1000)}, 9},
		"Created of the last version":  {[]impl.Version{version(0, -1, 0, 6, 3), version(1, 5, 7, 7, 1000)}, 7},
		"Created of the only version":  {[]impl.Version{version(1, 5, 12, 12, 1000)}, 12},
		"greatest Created":             {[]impl.Version{version(0, -1, 0, 998, 3), version(1, 5, 999, 999, 1000)}, 999},
		"Successor does not count":     {[]impl.Version{version(0, -1, 0, 2, 5), version(1, 5, 6, 6, 1000)}, 6},
	}
	for name, c := range cases {
		for key := range impl.MaxKeys {
			s := impl.NewStore()
			s.Chains[key] = c.l
			if got := impl.LastStamp(s); got != c.want {
				t.Errorf("%s, key %d: LastStamp = %d, want %d", name, key, got, c.want)
			}
		}
	}
}

func TestEqualStores(t *testing.T) {
	one := []impl.Version{{}}
	cases := []struct {
		a, b impl.Store
		want bool
	}{
		{impl.Store{}, impl.Store{}, true}, {impl.Store{}, impl.Store{Chains: [][]impl.Version{}}, true},
		{impl.Store{Chains: [][]impl.Version{nil}}, impl.Store{Chains: [][]impl.Version{{}}}, true},
		{impl.Store{Chains: [][]impl.Version{one, nil, one}}, impl.Store{Chains: [][]impl.Version{one, {}, one}}, true},
		{impl.Store{}, impl.Store{Chains: [][]impl.Version{nil}}, false}, {impl.Store{}, chainsOf(one), false},
		{impl.Store{Chains: [][]impl.Version{nil}}, impl.Store{Chains: [][]impl.Version{nil, nil}}, false},
		{chainsOf(one, nil), chainsOf(nil, one), false}, {chainsOf(one), chainsOf(one, nil), false},
		{impl.NewStore(), impl.NewStore(), true}, {mixedStore(), mixedStore(), true}, {impl.NewStore(), mixedStore(), false}, {impl.NewStore(), impl.Store{}, false},
		{chainsOf(longChain(51)), chainsOf(longChain(51)), true}, {chainsOf(longChain(51)), chainsOf(longChain(51)[1:]), false},
	}
	s := mixedStore()
	for key, l := range s.Chains {
		for _, changed := range [][]impl.Version{nil, l[1:], l[:len(l)-1], append(slices.Clone(l), impl.Version{}), append(slices.Clone(l), l[0])} {
			b := mixedStore()
			b.Chains[key] = changed
			cases = append(cases, struct {
				a, b impl.Store
				want bool
			}{s, b, false})
		}
	}
	for n := range impl.MaxKeys {
		cases = append(cases, struct {
			a, b impl.Store
			want bool
		}{s, chainsOf(s.Chains[:n]...), false})
	}
	for _, c := range cases {
		if got := impl.EqualStores(c.a, c.b); got != c.want {
			t.Errorf("EqualStores(%v, %v) = %t", c.a, c.b, got)
		}
		if got := impl.EqualStores(c.b, c.a); got != c.want {
			t.Errorf("EqualStores(%v, %v) = %t", c.b, c.a, got)
		}
	}
}

func TestStoresThatDifferInOneField(t *testing.T) {
	s := mixedStore()
	for key, l := range s.Chains {
		for i := range l {
			for field, change := range []func(v *impl.Version){
				func(v *impl.Version) { v.Writer++ },
				func(v *impl.Version) { v.Value++ },
				func(v *impl.Version) { v.Created++ },
				func(v *impl.Version) { v.Reader++ },
				func(v *impl.Version) { v.Successor++ },
			} {
				b := cloneStore(s)
				change(&b.Chains[key][i])
				if impl.EqualStores(s, b) || impl.EqualStores(b, s) {
					t.Errorf("equal although field %d of version %d of key %d differs", field, i, key)
				}
			}
		}
	}
}

func TestFormatState(t *testing.T) {
	cases := []struct {
		l    []int
		want string
	}{
		{nil, ""}, {[]int{}, ""},
		{[]int{-1}, "-"}, {[]int{0}, "0"}, {[]int{99}, "99"}, {[]int{7}, "7"}, {[]int{10}, "10"},
		{[]int{-2}, ""}, {[]int{100}, ""}, {[]int{math.MinInt}, ""}, {[]int{math.MaxInt}, ""}, {[]int{1 << 32}, ""}, {[]int{-1<<32 - 1}, ""},
		{[]int{-1, 0, 99}, "- 0 99"}, {[]int{99, -1, 0}, "99 - 0"}, {[]int{-1, -1}, "- -"}, {[]int{0, 0}, "0 0"},
		{[]int{1, 22, 3, 44, 5, 66}, "1 22 3 44 5 66"}, {[]int{1, 2, 3, 4, 5, 6, 7}, "1 2 3 4 5 6 7"},
	}
	for _, c := range cases {
		if got := impl.FormatState(c.l); got != c.want {
			t.Errorf("FormatState(%v) = %q, want %q", c.l, got, c.want)
		}
	}
}

func TestFormatStateInvalid(t *testing.T) {
	for length := 1; length <= 8; length++ {
		for i := range length {
			for _, n := range []int{math.MinInt, math.MinInt + 1, -1000, -2, 100, 101, 1000, 1 << 32, math.MaxInt - 1, math.MaxInt} {
				l := slices.Repeat([]int{5}, length)
				l[i] = n
				if got := impl.FormatState(l); got != "" {
					t.Errorf("FormatState(%v) = %q", l, got)
				}
			}
		}
	}
}

func TestFormatStateOfEveryValue(t *testing.T) {
	for n := -300; n <= 300; n++ {
		want := ""
		if n >= -1 && n <= 99 {
			want = fmt.Sprint(n)
		}
		if n == -1 {
			want = "-"
		}
		if got := impl.FormatState([]int{n}); got != want {
			t.Errorf("FormatState([%d]) = %q, want %q", n, got, want)
		}
	}
}

func TestStoresShareNoMemory(t *testing.T) {
	want := impl.NewStore()
	a, b := impl.NewStore(), impl.NewStore()
	for key := range a.Chains {
		a.Chains[key][0].Value = 7
		a.Chains[key] = initialChain(3)
		if !impl.EqualStores(b, want) || !impl.EqualStores(impl.NewStore(), want) {
			t.Fatal("writing into a new store changes another one:", b)
		}
	}
	for key := range b.Chains {
		before := cloneStore(b)
		// What is written into the capacity of one chain must be seen in no other.
		b.Chains[key][0].Reader = 9
		b.Chains[key] = append(b.Chains[key], version(1, 5, 1, 1, 1000))
		before.Chains[key] = b.Chains[key]
		if !impl.EqualStores(b, before) {
			t.Fatalf("writing into the chain of key %d changes another one: %v", key, b)
		}
	}
}

func TestReadingSharesNoMemory(t *testing.T) {
	s := mixedStore()
	before := cloneStore(s)
	first, second := impl.StateAt(s, 7), impl.StateAt(s, 7)
	want := slices.Clone(first)
	for i := range first {
		first[i] = 42
	}
	first = append(first[:0], 1, 2, 3)
	if !slices.Equal(second, want) || !slices.Equal(impl.StateAt(s, 7), want) || !impl.EqualStores(s, before) {
		t.Error("writing into a state changes another one, or the store:", second, s)
	}
	v, _ := impl.ReadLatest(s, 3)
	w, _ := impl.ReadAt(s, 3, 7)
	latest, at := v, w
	s.Chains[3][0].Value, s.Chains[3][49].Value = 17, 18
	if v != latest || w != at || !slices.Equal(second, want) {
		t.Error("writing into the store changes what has been read:", v, w, second)
	}
}

func TestStoreArgumentsStay(t *testing.T) {
	// The store is the beginning of a longer list of longer chains: what follows must stay, too.
	array := mixedStore()
	array.Chains = append(array.Chains, longChain(3), longChain(4))
	for key, l := range array.Chains {
		array.Chains[key] = append(l, version(1, 2, 3, 4, 5), version(5, 4, 3, 2, 1))
	}
	before := cloneStore(array)
	chains := slices.Clone(array.Chains)
	s := impl.Store{Chains: chains[:impl.MaxKeys]}
	for key, l := range s.Chains {
		s.Chains[key] = l[:len(l)-2]
	}
	if !impl.IsValidStore(s) {
		t.Fatal("not valid:", s)
	}
	for _, x := range []impl.Store{s, {Chains: s.Chains[:5]}, {Chains: s.Chains[:0]}, array} {
		for _, stamp := range []int{-1, 0, 7, math.MaxInt} {
			impl.StateAt(x, stamp)
			impl.ReadAt(x, 3, stamp)
		}
		impl.ReadLatest(x, 3)
		impl.LastStamp(x)
		impl.CountVersions(x)
		impl.EqualStores(x, s)
		impl.EqualStores(s, x)
	}
	state := []int{1, -1, 99, 100, -2}
	for n := range state {
		impl.FormatState(state[:n])
	}
	rest := impl.Store{Chains: chains[impl.MaxKeys:]}
	if !impl.EqualStores(array, before) || !impl.EqualStores(s, mixedStore()) || !impl.EqualStores(rest, impl.Store{Chains: before.Chains[impl.MaxKeys:]}) || !slices.Equal(state, []int{1, -1, 99, 100, -2}) {
		t.Error("arguments are modified:", array, s, state)
	}
}
