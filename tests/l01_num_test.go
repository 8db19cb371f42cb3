package tests

import (
	"math"
	"math/rand"
	"strconv"
	"strings"
	"testing"

	"loop.example/g01924/impl"
)

func TestEncodeFixed(t *testing.T) {
	cases := []struct {
		n, width int
		want     string
	}{
		{258, 2, "\x01\x02"},
		{0, 1, "\x00"},
		{0, 7, "\x00\x00\x00\x00\x00\x00\x00"},
		{7, 3, "\x00\x00\x07"},
		{255, 1, "\xff"},
		{256, 1, ""},
		{65535, 2, "\xff\xff"},
		{65536, 2, ""},
		{65536, 3, "\x01\x00\x00"},
		{1<<56 - 1, 7, "\xff\xff\xff\xff\xff\xff\xff"},
		{1 << 56, 7, ""},
		{0x01020304050607, 7, "\x01\x02\x03\x04\x05\x06\x07"},
		{math.MaxInt, 7, ""},
		{-1, 1, ""},
		{-1, 7, ""},
		{math.MinInt, 7, ""},
		{0, 0, ""},
		{1, 0, ""},
		{0, 8, ""},
		{1, 8, ""},
		{0, -1, ""},
		{0, math.MinInt, ""},
		{0, math.MaxInt, ""},
	}
	for _, c := range cases {
		if got := impl.EncodeFixed(c.n, c.width); got != c.want {
			t.Errorf("EncodeFixed(%d, %d) = %q, want %q", c.n, c.width, got, c.want)
		}
	}
}

func TestDecodeFixed(t *testing.T) {
	cases := []struct {
		s     string
		width int
		want  int
		ok    bool
	}{
		{"\x01\x02", 2, 258, true},
		{"\x01\x02\x03", 2, 258, true},
		{"\x01\x02\x03", 1, 1, true},
		{"\x00", 1, 0, true},
		{"\xff", 1, 255, true},
		{"\xff\xff\xff\xff\xff\xff\xff", 7, 1<<56 - 1, true},
		{"\x80\x00\x00\x00\x00\x00\x00\x01", 7, 1 << 55, true},
		{"", 1, 0, false},
		{"a", 2, 0, false},
		{"\xff\xff\xff\xff\xff\xff", 7, 0, false},
		{"", 0, 0, false},
		{"a", 0, 0, false},
		{"\x00\x00\x00\x00\x00\x00\x00\x01", 8, 0, false},
		{"a", -1, 0, false},
		{"a", math.MinInt, 0, false},
		{"a", math.MaxInt, 0, false},
	}
	for _, c := range cases {
		if got, ok := impl.DecodeFixed(c.s, c.width); got != c.want || ok != c.ok {
			t.Errorf("DecodeFixed(%q, %d) = %d, %t, want %d, %t", c.s, c.width, got, ok, c.want, c.ok)
		}
	}
}

func TestFixedInverse(t *testing.T) {
	for width := 1; width <= 7; width++ {
		greatest := 1<<(8*width) - 1
		for _, n := range []int{0, 1, greatest / 3, greatest/2 + 1, greatest - 1, greatest} {
			s := impl.EncodeFixed(n, width)
			if len(s) != width {
				t.Fatalf("EncodeFixed(%d, %d) = %q", n, width, s)
			}
			if got, ok := impl.DecodeFixed(s+"rest", width); got != n || !ok {
				t.Errorf("DecodeFixed(EncodeFixed(%d, %d)) = %d, %t", n, width, got, ok)
			}
		}
		if s := impl.EncodeFixed(greatest+1, width); s != "" {
			t.Errorf("EncodeFixed(%d, %d) = %q", greatest+1, width, s)
		}
	}
	for i := range 1 << 16 {
		s := string([]byte{byte(i >> 8), byte(i)})
		if n, ok := impl.DecodeFixed(s, 2); n != i || !ok || impl.EncodeFixed(n, 2) != s {
			t.Fatalf("DecodeFixed(%q, 2) = %d, %t", s, n, ok)
		}
	}
}

func TestEncodeVarint(t *testing.T) {
	cases := []struct {
		n    int
		want string
	}{
		{0, "\x00"},
		{1, "\x01"},
		{127, "\x7f"},
		{128, "\x80\x01"},
		{300, "\xac\x02"},
		{16383, "\xff\x7f"},
		{16384, "\x80\x80\x01"},
		{1 << 42, "\x80\x80\x80\x80\x80\x80\x01"},
		{impl.MaxVarint, "\xff\xff\xff\xff\xff\xff\x7f"},
		{impl.MaxVarint + 1, ""},
		{math.MaxInt, ""},
		{-1, ""},
		{math.MinInt, ""},
	}
	for _, c := range cases {
		if got := impl.EncodeVarint(c.n); got != c.want {
			t.Errorf("EncodeVarint(%d) = %q, want %q", c.n, got, c.want)
		}
	}
	if impl.MaxVarint != 562949953421311 {
		t.Error("MaxVarint", impl.MaxVarint)
	}
}

func TestDecodeVarint(t *testing.T) {
	cases := []struct {
		s         string
		n, length int
	}{
		{"\x00", 0, 1},
		{"\x00\x00", 0, 1},
		{"\x7f", 127, 1},
		{"\x80\x01", 128, 2},
		{"\xac\x02", 300, 2},
		{"\xac\x02z", 300, 2},
		{"\xac\x02\xac\x02", 300, 2},
		{"\xff\xff\xff\xff\xff\xff\x7f", impl.MaxVarint, 7},
		{"\xff\xff\xff\xff\xff\xff\x7f\x01", impl.MaxVarint, 7},
		{"", 0, 0},
		{"\x80", 0, 0},
		{"\xff\xff\xff\xff\xff\xff", 0, 0},
		{"\x80\x00", 0, 0},
		{"\x80\x00\x01", 0, 0},
		{"\x81\x00", 0, 0},
		{"\xac\x82\x00", 0, 0},
		{"\x80\x80\x80\x80\x80\x80\x00", 0, 0},
		{"\xff\xff\xff\xff\xff\xff\xff", 0, 0},
		{"\xff\xff\xff\xff\xff\xff\xff\x00", 0, 0},
		{"\x80\x80\x80\x80\x80\x80\x80\x01", 0, 0},
		{"\xff\xff\xff\xff\xff\xff\xff\xff\xff\xff\x01", 0, 0},
	}
	for _, c := range cases {
		if n, length := impl.DecodeVarint(c.s); n != c.n || length != c.length {
			t.Errorf("DecodeVarint(%q) = %d, %d, want %d, %d", c.s, n, length, c.n, c.length)
		}
	}
}

func TestVarintInverse(t *testing.T) {
	// All strings of three bytes with the bytes around the limits of a group.
	limits := []byte{0, 1, 2, 126, 127, 128, 129, 172, 254, 255}
	accepted := map[string]bool{}
	for n := range 1 << 21 {
		accepted[impl.EncodeVarint(n)] = true
	}
	for _, a := range limits {
		for _, b := range limits {
			for _, c := range limits {
				checkVarintPrefix(t, accepted, string([]byte{a, b, c}))
			}
		}
	}
	for shift := range 49 {
		for _, n := range []int{1<<shift - 1, 1 << shift, 1<<shift + 1} {
			s := impl.EncodeVarint(n)
			if got, length := impl.DecodeVarint(s + "\x80"); got != n || length != len(s) {
				t.Errorf("DecodeVarint(EncodeVarint(%d)) = %d, %d", n, got, length)
			}
			if got, length := impl.DecodeVarint(s[:len(s)-1]); got != 0 || length != 0 {
				t.Errorf("DecodeVarint of the cut off varint of %d = %d, %d", n, got, length)
			}
		}
	}
}

func checkVarintPrefix(t *testing.T, accepted map[string]bool, s string) {
	t.Helper()
	want := 0
	for length := 1; length <= len(s); length++ {
		if accepted[s[:length]] {
			want = length
		}
	}
	n, length := impl.DecodeVarint(s)
	if length != want || want == 0 && n != 0 || want > 0 && impl.EncodeVarint(n) != s[:want] {
		t.Errorf("DecodeVarint(%q) = %d, %d, want the length %d", s, n, length, want)
	}
}

func TestEncodeHex(t *testing.T) {
	cases := []struct{ s, want string }{
		{"", ""},
		{"a\xff", "61ff"},
		{"\x00", "00"},
		{"\x0f\xf0", "0ff0"},
		{"\x01\x23\x45\x67\x89\xab\xcd\xef", "0123456789abcdef"},
		{"é", "c3a9"},
	}
	for _, c := range cases {
		if got := impl.EncodeHex(c.s); got != c.want {
			t.Errorf("EncodeHex(%q) = %q, want %q", c.s, got, c.want)
		}
		if got, ok := impl.DecodeHex(c.want); got != c.s || !ok {
			t.Errorf("DecodeHex(%q) = %q, %t, want %q", c.want, got, ok, c.s)
		}
	}
}

func TestDecodeHexInvalid(t *testing.T) {
	invalid := []string{
		"0", "000", "61f", "6F", "F6", "FF", "AB", "0x", "0X61", "g0", "0g", " 61 ", "6 ", "-1", "+1",
		"/0", "0/", ":0", "0:", "`0", "0`", "\x00\x00", "\x80\x80", "\xff\xff", "é", "00é", "éé00", "٣", "00\n0",
	}
	for _, s := range invalid {
		if got, ok := impl.DecodeHex(s); got != "" || ok {
			t.Errorf("DecodeHex(%q) = %q, %t", s, got, ok)
		}
	}
}

func TestHexInverse(t *testing.T) {
	accepted := map[string]string{}
	for i := range 256 {
		s := string([]byte{byte(i)})
		accepted[impl.EncodeHex(s)] = s
	}
	if len(accepted) != 256 {
		t.Fatal("different bytes have the same digits")
	}
	for i := range 1 << 16 {
		s := string([]byte{byte(i >> 8), byte(i)})
		want, wantOK := accepted[s]
		if got, ok := impl.DecodeHex(s); got != want || ok != wantOK {
			t.Errorf("DecodeHex(%q) = %q, %t, want %q, %t", s, got, ok, want, wantOK)
		}
		if got, ok := impl.DecodeHex(impl.EncodeHex(s)); got != s || !ok {
			t.Errorf("DecodeHex(EncodeHex(%q)) = %q, %t", s, got, ok)
		}
	}
}

func TestFormatInt(t *testing.T) {
	cases := []struct {
		n    int
		want string
	}{
		{0, "0"},
		{7, "7"},
		{-7, "-7"},
		{10, "10"},
		{-120, "-120"},
		{999999999, "999999999"},
		{1000000000, "1000000000"},
		{math.MaxInt, "9223372036854775807"},
		{math.MinInt, "-9223372036854775808"},
	}
	for _, c := range cases {
		if got := impl.FormatInt(c.n); got != c.want {
			t.Errorf("FormatInt(%d) = %q, want %q", c.n, got, c.want)
		}
	}
}

func TestParseInt(t *testing.T) {
	cases := []struct {
		s    string
		want int
	}{
		{"0", 0},
		{"7", 7},
		{"-7", -7},
		{"10", 10},
		{"-10", -10},
		{"123456789", 123456789},
		{"999999999", 999999999},
		{"-999999999", -999999999},
	}
	for _, c := range cases {
		if got, ok := impl.ParseInt(c.s); got != c.want || !ok {
			t.Errorf("ParseInt(%q) = %d, %t, want %d", c.s, got, ok, c.want)
		}
	}
}

func TestParseIntInvalid(t *testing.T) {
	invalid := []string{
		"", "-", "+", "--1", "+1", "+0", "-0", "00", "07", "-07", "000000001", " 1", "1 ", " ", "1 2", "1\n", "\x00",
		"1000000000", "-1000000000", "9999999999", "0000000001",
		"9223372036854775807", "-9223372036854775808", "18446744073709551617", "-18446744073709551617",
		strings.Repeat("9", 1000), strings.Repeat("0", 1000),
		"1_0", "0x1", "1e3", "1.0", "a", "1a", "a1", "1-", "٣", "１", "\xff", "inf",
	}
	for _, s := range invalid {
		if got, ok := impl.ParseInt(s); got != 0 || ok {
			t.Errorf("ParseInt(%q) = %d, %t", s, got, ok)
		}
	}
}

func TestIntInverse(t *testing.T) {
	accepted := map[string]int{}
	for n := -99; n <= 999; n++ {
		s := impl.FormatInt(n)
		if s != strconv.Itoa(n) {
			t.Fatalf("FormatInt(%d) = %q", n, s)
		}
		accepted[s] = n
	}
	const letters = "-+0123456789 _a"
	for _, a := range letters {
		for _, b := range letters {
			for _, c := range letters {
				for _, s := range []string{string([]rune{a, b, c}), string([]rune{a, b}), string(a)} {
					want, wantOK := accepted[s]
					if got, ok := impl.ParseInt(s); got != want || ok != wantOK {
						t.Errorf("ParseInt(%q) = %d, %t, want %d, %t", s, got, ok, want, wantOK)
					}
				}
			}
		}
	}
	random := rand.New(rand.NewSource(1))
	for range 10000 {
		n := random.Intn(1999999999) - 999999999
		if got, ok := impl.ParseInt(impl.FormatInt(n)); got != n || !ok {
			t.Errorf("ParseInt(FormatInt(%d)) = %d, %t", n, got, ok)
		}
	}
}
