package tests

import (
	"math"
	"strconv"
	"strings"
	"testing"

	"loop.example/g01924/impl"
)

func TestStampConstants(t *testing.T) {
	if impl.MaxStamp != 999 || impl.Infinity != 1000 {
		t.Error("constants", impl.MaxStamp, impl.Infinity)
	}
}

func TestMarkLimits(t *testing.T) {
	cases := []struct {
		n      int
		stamp  bool
		mark   bool
		format string
		next   int
	}{
		{math.MinInt, false, false, "", 0},
		{math.MinInt + 1, false, false, "", 0},
		{-1000, false, false, "", 0},
		{-2, false, false, "", 0},
		{-1, false, false, "", 0},
		{0, false, true, "0", 1},
		{1, true, true, "1", 2},
		{7, true, true, "7", 8},
		{10, true, true, "10", 11},
		{impl.MaxStamp - 2, true, true, "997", 998},
		{impl.MaxStamp - 1, true, true, "998", 999},
		{impl.MaxStamp, true, true, "999", 0},
		{impl.Infinity, false, true, "inf", 0},
		{impl.Infinity + 1, false, false, "", 0},
		{1 << 32, false, false, "", 0},
		{1<<32 + 7, false, false, "", 0},
		{math.MaxInt - 1, false, false, "", 0},
		{math.MaxInt, false, false, "", 0},
	}
	for _, c := range cases {
		if got := impl.IsStamp(c.n); got != c.stamp {
			t.Errorf("IsStamp(%d) = %t", c.n, got)
		}
		if got := impl.IsMark(c.n); got != c.mark {
			t.Errorf("IsMark(%d) = %t", c.n, got)
		}
		if got := impl.FormatMark(c.n); got != c.format {
			t.Errorf("FormatMark(%d) = %q, want %q", c.n, got, c.format)
		}
		if got := impl.NextStamp(c.n); got != c.next {
			t.Errorf("NextStamp(%d) = %d, want %d", c.n, got, c.next)
		}
	}
}

// formattedMarks returns the marks by their formats, as the document defines them.
func formattedMarks() map[string]int {
	marks := map[string]int{"inf": 1000}
	for n := range 1000 {
		marks[strconv.Itoa(n)] = n
	}
	return marks
}

func TestMarkInverse(t *testing.T) {
	for s, n := range formattedMarks() {
		if got := impl.FormatMark(n); got != s {
			t.Errorf("FormatMark(%d) = %q, want %q", n, got, s)
		}
		if got, ok := impl.ParseMark(s); got != n || !ok {
			t.Errorf("ParseMark(%q) = %d, %t, want %d", s, got, ok, n)
		}
	}
	for n := -2000; n <= 3000; n++ {
		want := n >= 0 && n <= 1000
		if got := impl.FormatMark(n); (got != "") != want {
			t.Errorf("FormatMark(%d) = %q", n, got)
		}
	}
}

func TestStampsFollowEachOther(t *testing.T) {
	n := 0
	for want := 1; want <= impl.MaxStamp; want++ {
		n = impl.NextStamp(n)
		if n != want || !impl.IsStamp(n) {
			t.Fatalf("the stamp after %d is %d", want-1, n)
		}
	}
	if n = impl.NextStamp(n); n != 0 {
		t.Errorf("the stamp after the last one is %d", n)
	}
}

func TestParseMarkInvalid(t *testing.T) {
	invalid := []string{
		"", "1000", "1001", "9999", "-1", "-0", "-999", "-1000", "00", "007", "0999", "01000", "+5", "+inf", "-inf",
		" 5", "5 ", " ", "5\n", "5 5", "5,", "1_0", "0x1", "1e2", "1.0", "a", "5a", "a5", "٣", "５", "\x00", "\xff",
		"Inf", "INF", "iNf", "inF", "infinity", "Infinity", "in", "i", "n", "inf ", " inf", "inf\n", "inf\x00", "infinf", "inf0", "0inf", "∞", "NaN",
		"999999999", "1000000000", "9223372036854775807", "9223372036854775808", "18446744073709551616", "18446744073709551621",
		"-9223372036854775808", "-18446744073709551611", "4294967301",
		strings.Repeat("9", 1000), strings.Repeat("0", 1000), strings.Repeat("0", 1000) + "5",
	}
	for _, s := range invalid {
		if got, ok := impl.ParseMark(s); got != 0 || ok {
			t.Errorf("ParseMark(%q) = %d, %t", s, got, ok)
		}
	}
}

func TestParseMarkAcceptsNothingElse(t *testing.T) {
	marks := formattedMarks()
	const letters = "-+0129 _infIN\x00\xff"
	texts := []string{""}
	for start := 0; len(texts[start]) < 4; start++ {
		for i := range len(letters) {
			texts = append(texts, texts[start]+letters[i:i+1])
		}
	}
	for _, s := range texts {
		want, wantOK := marks[s]
		if got, ok := impl.ParseMark(s); got != want || ok != wantOK {
			t.Errorf("ParseMark(%q) = %d, %t, want %d, %t", s, got, ok, want, wantOK)
		}
	}
}
