package tests

import (
	"fmt"
	"math"
	"math/rand"
	"regexp"
	"slices"
	"strconv"
	"strings"
	"testing"

	"loop.example/g01924/impl"
)

func version(writer, value, created, reader, successor int) impl.Version {
	return impl.Version{Writer: writer, Value: value, Created: created, Reader: reader, Successor: successor}
}

// longChain returns a valid chain of n versions; the greatest n is 1000.
func longChain(n int) []impl.Version {
	l := []impl.Version{version(0, -1, 0, 0, 1)}
	for i := 1; i < n; i++ {
		l = append(l, version(i%9+1, i%101-1, i, min(999, i+i%3), i+1))
	}
	l[n-1].Successor = 1000
	return l
}

// textOf formats any list as the document formats valid chains.
func textOf(l []impl.Version) string {
	var parts []string
	for _, v := range l {
		value := strconv.Itoa(v.Value)
		if v.Value == -1 {
			value = "-"
		}
		successor := strconv.Itoa(v.Successor)
		if v.Successor == 1000 {
			successor = "inf"
		}
		parts = append(parts, fmt.Sprintf("%d:%s@%d,%d,%s", v.Writer, value, v.Created, v.Reader, successor))
	}
	return strings.Join(parts, " ")
}

var limitChains = map[string][]impl.Version{
	"0:-@0,0,inf":                       {version(0, -1, 0, 0, 1000)},
	"0:-@0,999,inf":                     {version(0, -1, 0, 999, 1000)},
	"1:-@1,1,inf":                       {version(1, -1, 1, 1, 1000)},
	"9:99@1,999,inf":                    {version(9, 99, 1, 999, 1000)},
	"1:0@999,999,inf":                   {version(1, 0, 999, 999, 1000)},
	"5:10@100,200,inf":                  {version(5, 10, 100, 200, 1000)},
	"0:-@0,1,1 1:5@1,3,inf":             {version(0, -1, 0, 1, 1), version(1, 5, 1, 3, 1000)},
	"0:-@0,999,1 9:99@999,999,inf":      {version(0, -1, 0, 999, 1), version(9, 99, 999, 999, 1000)},
	"0:-@0,0,999 1:0@999,999,inf":       {version(0, -1, 0, 0, 999), version(1, 0, 999, 999, 1000)},
	"1:-@998,998,999 1:-@999,999,inf":   {version(1, -1, 998, 998, 999), version(1, -1, 999, 999, 1000)},
	"2:7@5,9,1 3:8@7,7,inf":             {version(2, 7, 5, 9, 1), version(3, 8, 7, 7, 1000)},
	"0:-@0,1,1 1:5@1,3,3 4:-@4,4,inf":   {version(0, -1, 0, 1, 1), version(1, 5, 1, 3, 3), version(4, -1, 4, 4, 1000)},
	"9:0@1,999,1 9:1@2,2,2 9:2@3,3,inf": {version(9, 0, 1, 999, 1), version(9, 1, 2, 2, 2), version(9, 2, 3, 3, 1000)},
}

func TestVersionConstants(t *testing.T) {
	if impl.Absent != -1 || impl.MaxValue != 99 || impl.MaxTransactionID != 9 {
		t.Error("constants", impl.Absent, impl.MaxValue, impl.MaxTransactionID)
	}
}

func TestValidVersions(t *testing.T) {
	valid := []impl.Version{
		version(0, -1, 0, 0, 1), version(0, -1, 0, 999, 1000), version(0, -1, 0, 0, 999),
		version(1, -1, 1, 1, 1), version(9, -1, 1, 1, 1), version(1, 0, 1, 1, 1), version(1, 99, 1, 1, 1),
		version(1, 5, 999, 999, 1), version(1, 5, 1, 999, 1), version(4, 5, 7, 8, 9), version(4, 5, 7, 7, 1000),
	}
	for _, v := range valid {
		if !impl.IsValidVersion(v) {
			t.Error("not valid:", v)
		}
	}
	for _, v := range invalidVersions() {
		if impl.IsValidVersion(v) {
			t.Error("valid:", v)
		}
	}
}

// invalidVersions returns versions of which one field alone is out of its range, and those of the two kinds of Created that the other kind's Writer or Value has.
func invalidVersions() []impl.Version {
	invalid := []impl.Version{
		{}, version(0, 5, 0, 0, 1000), version(0, 0, 0, 0, 1000), version(0, 99, 0, 0, 1000), version(1, -1, 0, 0, 1000), version(9, -1, 0, 0, 1000), version(1, 5, 0, 0, 1000),
		version(-1, -1, 0, 0, 1000), version(0, -1, 1, 1, 1000), version(0, 5, 1, 1, 1000), version(3, 5, 4, 3, 1000), version(0, -1, 999, 999, 1000),
		version(3, 5, 999, 998, 1000), version(0, -1, -1, -1, 1000), version(0, -1, -1, 0, 1000), version(3, 5, -1, -1, 1000), version(3, 5, 1000, 1000, 1000), version(0, -1, 0, 1000, 1000),
	}
	for _, n := range []int{math.MinInt, math.MinInt + 1, math.MaxInt - 1, math.MaxInt, 1 << 32, 1<<32 + 4, -1 << 32} {
		invalid = append(invalid, version(n, 5, 4, 4, 1000), version(3, n, 4, 4, 1000), version(3, 5, n, 4, 1000), version(3, 5, 4, n, 1000), version(3, 5, 4, 4, n))
		invalid = append(invalid, version(n, -1, 0, 0, 1000), version(0, n, 0, 0, 1000), version(0, -1, n, 0, 1000), version(0, -1, 0, n, 1000), version(0, -1, 0, 0, n))
		invalid = append(invalid, version(3, 5, n, n, 1000))
	}
	for _, n := range []int{-1, 0, 10} {
		invalid = append(invalid, version(n, 5, 4, 4, 1000))
	}
	for _, n := range []int{-2, 100} {
		invalid = append(invalid, version(3, n, 4, 4, 1000))
	}
	for _, n := range []int{-1, 0, 3, 1000} {
		invalid = append(invalid, version(3, 5, 4, n, 1000))
	}
	for _, n := range []int{-1, 0, 1001} {
		invalid = append(invalid, version(3, 5, 4, 4, n), version(0, -1, 0, 0, n))
	}
	return invalid
}

func TestChainInverse(t *testing.T) {
	chains := map[string][]impl.Version{}
	for s, l := range limitChains {
		chains[s] = l
	}
	for _, n := range []int{1, 2, 3, 50, 99, 100} {
		chains[textOf(longChain(n))] = longChain(n)
	}
	for s, l := range chains {
		if !impl.IsValidChain(l) {
			t.Errorf("%q is not valid", s)
		}
		if got := impl.FormatChain(l); got != s {
			t.Errorf("FormatChain: %q, want %q", got, s)
		}
		if got, ok := impl.ParseChain(s); !ok || !slices.Equal(got, l) {
			t.Errorf("ParseChain(%q) = %v, %t", s, got, ok)
		}
		if got := impl.LatestVersion(l); got != l[len(l)-1] {
			t.Errorf("LatestVersion of %q: %v", s, got)
		}
	}
}

func TestLongChainsAreOnlyFormatted(t *testing.T) {
	for _, n := range []int{101, 102, 200, 1000} {
		l := longChain(n)
		if !impl.IsValidChain(l) || impl.LatestVersion(l) != l[n-1] || impl.VersionAt(l, n-2) != n-2 || impl.VersionAt(l, 999) != n-1 {
			t.Errorf("the chain of %d versions is not valid", n)
		}
		s := impl.FormatChain(l)
		if s != textOf(l) {
			t.Errorf("the chain of %d versions is formatted as %q", n, s)
		}
		if got, ok := impl.ParseChain(s); got != nil || ok {
			t.Errorf("the chain of %d versions is parsed", n)
		}
	}
}

func TestFindVersion(t *testing.T) {
	l := []impl.Version{version(0, -1, 0, 0, 2), version(1, 5, 3, 3, 7), version(2, 6, 7, 9, 1000)}
	unordered := []impl.Version{version(1, 5, 7, 7, 1), version(1, 5, -3, 7, 1), version(2, 6, 7, 9, 0), {}, {}}
	cases := []struct {
		l       []impl.Version
		created int
		want    int
	}{
		{l, 0, 0}, {l, 3, 1}, {l, 7, 2}, {l, 1, -1}, {l, 4, -1}, {l, 8, -1}, {l, 9, -1}, {l, -1, -1}, {l, 1000, -1}, {l, math.MinInt, -1}, {l, math.MaxInt, -1},
		{nil, 0, -1}, {[]impl.Version{}, 0, -1}, {l[1:], 0, -1}, {l[1:], 7, 1},
		{unordered, 7, 0}, {unordered, -3, 1}, {unordered, 0, 3}, {unordered, 1, -1},
		{[]impl.Version{version(0, 0, math.MinInt, 0, 0), version(0, 0, math.MaxInt, 0, 0)}, math.MaxInt, 1},
		{[]impl.Version{version(0, 0, math.MinInt, 0, 0), version(0, 0, math.MaxInt, 0, 0)}, math.MinInt, 0},
	}
	for _, c := range cases {
		if got := impl.FindVersion(c.l, c.created); got != c.want {
			t.Errorf("FindVersion(%v, %d) = %d, want %d", c.l, c.created, got, c.want)
		}
	}
}

func TestVersionAt(t *testing.T) {
	initial := []impl.Version{version(0, -1, 0, 0, 2), version(1, 5, 3, 3, 7), version(2, 6, 7, 9, 1000)}
	collected := initial[1:]
	last := []impl.Version{version(2, 6, 999, 999, 1000)}
	cases := []struct {
		l     []impl.Version
		stamp int
		want  int
	}{
		{initial, math.MinInt, -1}, {initial, -1, -1}, {initial, 0, 0}, {initial, 1, 0}, {initial, 2, 0}, {initial, 3, 1}, {initial, 6, 1},
		{initial, 7, 2}, {initial, 8, 2}, {initial, 999, 2}, {initial, 1000, 2}, {initial, 1001, 2}, {initial, math.MaxInt, 2},
		{collected, math.MinInt, -1}, {collected, -1, -1}, {collected, 0, -1}, {collected, 2, -1}, {collected, 3, 0}, {collected, 6, 0}, {collected, 7, 1}, {collected, math.MaxInt, 1},
		{last, 998, -1}, {last, 999, 0}, {last, math.MaxInt, 0}, {last, math.MinInt, -1},
	}
	for _, c := range cases {
		if got := impl.VersionAt(c.l, c.stamp); got != c.want {
			t.Errorf("VersionAt(%v, %d) = %d, want %d", c.l, c.stamp, got, c.want)
		}
	}
}

func invalidChains() [][]impl.Version {
	initial := version(0, -1, 0, 0, 2)
	latest := version(2, 6, 7, 9, 1000)
	chains := [][]impl.Version{
		nil,
		{},
		{initial},
		{version(2, 6, 7, 9, 999)},
		{initial, version(2, 6, 7, 9, 999)},
		{initial, version(2, 6, 7, 9, 7)},
		{latest, latest},
		{version(2, 6, 7, 9, 7), latest},
		{version(2, 6, 8, 9, 1), latest},
		{version(2, 6, 8, 9, 1), version(0, -1, 0, 0, 1000)},
		{initial, initial, latest},
		{initial, version(2, 6, 7, 7, 1), version(2, 6, 5, 5, 1), version(2, 6, 9, 9, 1000)},
		{version(0, -1, 0, 0, 8), latest},
		{version(0, -1, 0, 0, 999), latest},
		{version(0, -1, 0, 0, 1000), latest},
		{version(0, -1, 0, 0, 2), version(1, 1, 1, 1, 1000)},
		{initial, version(1, 5, 3, 3, 8), latest},
		{version(0, -1, 0, 0, 4), version(1, 5, 3, 3, 7), latest},
	}
	for _, v := range invalidVersions() {
		chains = append(chains, []impl.Version{v}, []impl.Version{v, latest}, []impl.Version{initial, v}, []impl.Version{initial, version(1, 5, 2, 2, 2), v, latest})
	}
	return chains
}

func TestInvalidChains(t *testing.T) {
	for _, l := range invalidChains() {
		if impl.IsValidChain(l) {
			t.Error("valid:", l)
		}
		if got := impl.LatestVersion(l); got != (impl.Version{}) {
			t.Errorf("LatestVersion(%v) = %v", l, got)
		}
		for _, stamp := range []int{math.MinInt, -1, 0, 1, 3, 7, 999, 1000, math.MaxInt} {
			if got := impl.VersionAt(l, stamp); got != -1 {
				t.Errorf("VersionAt(%v, %d) = %d", l, stamp, got)
			}
		}
		if got := impl.FormatChain(l); got != "" {
			t.Errorf("FormatChain(%v) = %q", l, got)
		}
		if got, ok := impl.ParseChain(textOf(l)); got != nil || ok {
			t.Errorf("ParseChain(%q) = %v, %t", textOf(l), got, ok)
		}
		if !impl.EqualChains(l, slices.Clone(l)) {
			t.Error("not equal:", l)
		}
		for i, v := range l {
			if got := impl.FindVersion(l, v.Created); got < 0 || got > i || l[got].Created != v.Created {
				t.Errorf("FindVersion(%v, %d) = %d", l, v.Created, got)
			}
		}
	}
}

func TestEqualChains(t *testing.T) {
	l := []impl.Version{version(0, -1, 0, 0, 2), version(1, 5, 3, 3, 7), version(2, 6, 7, 9, 1000)}
	cases := []struct {
		a, b []impl.Version
		want bool
	}{
		{nil, nil, true}, {nil, []impl.Version{}, true}, {[]impl.Version{}, nil, true}, {[]impl.Version{{}}, nil, false}, {nil, []impl.Version{{}}, false},
		{l, l, true}, {l, slices.Clone(l), true}, {l, l[:2], false}, {l[:2], l, false}, {l, l[1:], false}, {l[:2], l[1:], false},
		{[]impl.Version{{}}, []impl.Version{{}}, true}, {[]impl.Version{{}}, []impl.Version{{}, {}}, false},
		{l, []impl.Version{l[0], l[2], l[1]}, false},
	}
	for _, c := range cases {
		if got := impl.EqualChains(c.a, c.b); got != c.want {
			t.Errorf("EqualChains(%v, %v) = %t", c.a, c.b, got)
		}
	}
	for i := range l {
		changed := []impl.Version{l[i], l[i], l[i], l[i], l[i]}
		changed[0].Writer++
		changed[1].Value++
		changed[2].Created++
		changed[3].Reader++
		changed[4].Successor++
		for _, v := range changed {
			b := slices.Clone(l)
			b[i] = v
			if impl.EqualChains(l, b) || impl.EqualChains(b, l) {
				t.Errorf("%v equals %v", l, b)
			}
		}
	}
}

func TestParseChainInvalid(t *testing.T) {
	invalid := []string{
		"", " ", "  ", "\n", "none", "inf", "-", ":", "@", ",", ":@,,", "0", "0:", "0:-", "0:-@", "0:-@0", "0:-@0,", "0:-@0,0", "0:-@0,0,", ":-@0,0,inf", "0:@0,0,inf", "0:-@,0,inf", "0:-@0,,inf",
		" 0:-@0,0,inf", "0:-@0,0,inf ", "0:-@0,0,inf\n", "\t0:-@0,0,inf", "0:-@0,1,1  1:5@1,3,inf", "0:-@0,1,1\t1:5@1,3,inf", "0:-@0,1,1,1:5@1,3,inf", "0:-@0,1,11:5@1,3,inf", "0:-@0,1,1;1:5@1,3,inf",
		"0:-@0 0,inf", "0:-@0,0,inf,", "0:-@0,0,,inf", "0::-@0,0,inf", "0:-@@0,0,inf", "0:-@0,0,inf:", "0:-@0,0,inf@", "0:-:@0,0,inf", "0-@0,0,inf", "0:-0,0,inf", "0:-@00,inf", "0:-@0,0inf", "0@-:0,0,inf", "0,-@0:0,inf",
		"1:5@1,3,inf,1", "1:5@1,3", "1:5,1,3,inf", "1@5,1,3,inf", "1:5@1@3,inf", "1:5@1,3@inf", "1:5:1,3,inf",
		"+0:-@0,0,inf", "-0:-@0,0,inf", "0:-@+0,0,inf", "0:-@-0,0,inf", "0:-@0,+0,inf", "0:-@0,-0,inf", "0:-@0,0,+inf", "0:-@0,0,-inf", "+1:5@1,3,inf", "1:+5@1,3,inf", "1:-5@1,3,inf", "-1:5@1,3,inf", "1:5@-1,3,inf", "1:5@1,-3,inf",
		"00:-@0,0,inf", "0:-@00,0,inf", "0:-@0,00,inf", "01:5@1,3,inf", "1:05@1,3,inf", "1:5@01,3,inf", "1:5@1,03,inf", "0:-@0,1,01 1:5@1,3,inf", "1:00@1,3,inf", "1:-0@1,3,inf",
		"9223372036854775808:5@1,3,inf", "1:9223372036854775808@1,3,inf", "1:5@9223372036854775808,3,inf", "1:5@1,9223372036854775808,inf", "1:5@1,3,9223372036854775808",
		"18446744073709551617:5@1,3,inf", "1:18446744073709551621@1,3,inf", "1:5@18446744073709551617,3,inf", "1:5@1,18446744073709551619,inf", "4294967297:5@1,3,inf", "1:4294967301@1,3,inf",
		strings.Repeat("1", 1000) + ":5@1,3,inf", "1:" + strings.Repeat("0", 1000) + "5@1,3,inf", "1:5@1,3," + strings.Repeat("9", 1000),
		"0:-1@0,0,inf", "1:-1@1,3,inf", "0:-@0,1,1 1:-1@1,3,inf", "1:100@1,3,inf", "1:-2@1,3,inf", "1:--@1,3,inf", "1:-5@1,3,inf", "1:inf@1,3,inf",
		"0:-@0,0,1000", "1:5@1,3,1000", "0:-@0,1,1000 1:5@1,3,inf", "1:5@1,3,Inf", "1:5@1,3,INF", "1:5@1,3,in", "1:5@1,3,infinity", "1:5@1,inf,inf", "1:5@inf,inf,inf", "inf:5@1,3,inf", "1:5@1,3,-", "-:5@1,3,inf", "1:5@-,3,inf", "1:5@1,-,inf",
		"0:-@0,0,1", "0:-@0,0,0", "0:-@0,0,999", "0:-@0,0,1001", "0:5@0,0,inf", "0:0@0,0,inf", "1:-@0,0,inf", "1:5@0,0,inf", "0:-@1,1,inf", "0:5@1,1,inf", "10:5@1,1,inf", "1:5@2,1,inf", "1:5@1000,1000,inf", "1:5@1,1000,inf",
		"0:-@0,0,2 1:5@1,1,inf", "0:-@0,0,inf 1:5@1,1,inf", "0:-@0,0,1 0:-@0,0,inf", "1:5@1,1,1 1:5@1,1,inf", "1:5@2,2,1 1:5@1,1,inf", "1:5@1,1,inf 0:-@0,0,inf", "0:-@0,0,0 1:5@1,1,inf", "0:-@0,0,1 1:5@1,1,1",
		"0:-@0,0,inf\x00", "\x000:-@0,0,inf", "0:-@0,0,inf\xff", "0:-@0,0,iñf", "0:−@0,0,inf", "٠:-@0,0,inf", "0:-@0,0,∞",
		strings.Repeat(" ", 99), strings.Repeat(" ", 100), strings.Repeat("0:-@0,0,inf ", 100), strings.Repeat("1:5@1,1,1 ", 99) + "1:5@2,2,inf", strings.Repeat(",", 1000), strings.Repeat(" ", 100000),
		" " + textOf(longChain(100)), textOf(longChain(100)) + " ", textOf(longChain(101)),
	}
	for _, s := range invalid {
		if got, ok := impl.ParseChain(s); got != nil || ok {
			t.Errorf("ParseChain(%q) = %v, %t", s, got, ok)
		}
	}
}

var chainPattern = regexp.MustCompile(`^[0-9]:(-|[0-9]|[1-9][0-9])@(0|[1-9][0-9]{0,2}),(0|[1-9][0-9]{0,2}),([1-9][0-9]{0,2}|inf)( [0-9]:(-|[0-9]|[1-9][0-9])@(0|[1-9][0-9]{0,2}),(0|[1-9][0-9]{0,2}),([1-9][0-9]{0,2}|inf))*$`)

// isChainText follows the document's definitions one by one, with a pattern instead of a parser.
func isChainText(s string) bool {
	if !chainPattern.MatchString(s) {
		return false
	}
	texts := strings.Split(s, " ")
	lastCreated, lastSuccessor := -1, 0
	for _, text := range texts {
		parts := regexp.MustCompile(`[:@,]`).Split(text, -1)
		created, _ := strconv.Atoi(parts[2])
		reader, _ := strconv.Atoi(parts[3])
		if reader < created || created <= lastCreated || lastSuccessor > created {
			return false
		}
		if created == 0 && (parts[0] != "0" || parts[1] != "-") || created > 0 && parts[0] == "0" {
			return false
		}
		lastCreated, lastSuccessor = created, 1000
		if parts[4] != "inf" {
			lastSuccessor, _ = strconv.Atoi(parts[4])
		}
	}
	return lastSuccessor == 1000 && len(texts) <= 100
}

func checkChainText(t *testing.T, s string) {
	t.Helper()
	l, ok := impl.ParseChain(s)
	if ok != isChainText(s) {
		t.Fatalf("ParseChain(%q) = %v, %t", s, l, ok)
	}
	if !ok && l != nil {
		t.Fatalf("ParseChain(%q) = %v with false", s, l)
	}
	if ok && (impl.FormatChain(l) != s || textOf(l) != s || !impl.IsValidChain(l)) {
		t.Fatalf("ParseChain(%q) = %v", s, l)
	}
}

func TestParseChainAcceptsNothingElse(t *testing.T) {
	const letters = "0159:@,- inf+\x00"
	for s := range limitChains {
		checkChainText(t, s)
		for i := range len(s) + 1 {
			for j := range len(letters) {
				checkChainText(t, s[:i]+letters[j:j+1]+s[i:])
				if i < len(s) {
					checkChainText(t, s[:i]+letters[j:j+1]+s[i+1:])
				}
			}
			if i < len(s) {
				checkChainText(t, s[:i]+s[i+1:])
			}
			checkChainText(t, s[:i])
			checkChainText(t, s[i:])
		}
	}
}

func TestRandomChains(t *testing.T) {
	random := rand.New(rand.NewSource(3))
	valid := 0
	for range 20000 {
		var l []impl.Version
		for range random.Intn(5) {
			l = append(l, version(random.Intn(4), random.Intn(4)-1, random.Intn(5)+len(l), random.Intn(9), random.Intn(6)))
		}
		if len(l) > 0 && random.Intn(8) > 0 {
			l[len(l)-1].Successor = 1000
		}
		if len(l) > 0 && random.Intn(2) > 0 {
			l[0] = version(0, -1, 0, 0, l[0].Successor)
		}
		s := textOf(l)
		want := isChainText(s)
		if want {
			valid++
		}
		if got := impl.IsValidChain(l); got != want {
			t.Errorf("IsValidChain(%v) = %t", l, got)
		}
		if got := impl.FormatChain(l); want && got != s || !want && got != "" {
			t.Errorf("FormatChain(%v) = %q", l, got)
		}
		checkChainText(t, s)
		checkVersionAt(t, l, random.Intn(12)-1, want)
	}
	if valid < 500 {
		t.Error("only", valid, "random chains are valid")
	}
}

func checkVersionAt(t *testing.T, l []impl.Version, stamp int, valid bool) {
	t.Helper()
	want := -1
	for i, v := range l {
		if valid && v.Created <= stamp {
			want = i
		}
	}
	if got := impl.VersionAt(l, stamp); got != want {
		t.Errorf("VersionAt(%v, %d) = %d, want %d", l, stamp, got, want)
	}
}

func TestChainArgumentsStay(t *testing.T) {
	array := longChain(6)
	array[2].Successor = 1000
	before := slices.Clone(array)
	for _, l := range [][]impl.Version{array[:3], array[:0], array[1:2], array} {
		impl.IsValidChain(l)
		impl.LatestVersion(l)
		impl.FindVersion(l, 2)
		impl.VersionAt(l, 2)
		impl.EqualChains(l, array[:2])
		impl.FormatChain(l)
	}
	if !slices.Equal(array, before) {
		t.Error("changed to", array)
	}
	s := "0:-@0,1,1 1:5@1,3,inf"
	first, _ := impl.ParseChain(s)
	first[0].Value = 7
	if second, ok := impl.ParseChain(s); !ok || second[0].Value != -1 {
		t.Error("two results share memory:", second)
	}
}
