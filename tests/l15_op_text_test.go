package tests

import (
	"math/rand"
	"slices"
	"strconv"
	"strings"
	"testing"

	"loop.example/g01924/impl"
)

// opTexts has the format of every valid operation; no other string is the format of one.
var opTexts = func() map[string]impl.Op {
	texts := map[string]impl.Op{}
	for id := 1; id <= 9; id++ {
		n := strconv.Itoa(id)
		for scheme, name := range []string{"committed", "snapshot", "optimistic", "ordered"} {
			texts["b"+n+" "+name] = impl.Op{Kind: 1, ID: id, Scheme: scheme + 1}
		}
		for key := range 6 {
			k := " " + strconv.Itoa(key)
			texts["r"+n+k] = impl.Op{Kind: 2, ID: id, Key: key}
			texts["w"+n+k+" -"] = impl.Op{Kind: 3, ID: id, Key: key, Value: -1}
			for value := range 100 {
				texts["w"+n+k+" "+strconv.Itoa(value)] = impl.Op{Kind: 3, ID: id, Key: key, Value: value}
			}
			for high := key; high < 6; high++ {
				texts["s"+n+k+" "+strconv.Itoa(high)] = impl.Op{Kind: 4, ID: id, Key: key, High: high}
			}
		}
		texts["c"+n] = impl.Op{Kind: 5, ID: id}
		texts["a"+n] = impl.Op{Kind: 6, ID: id}
	}
	return texts
}()

// sortedTexts returns the formats of all valid operations in an order that is always the same.
func sortedTexts() []string {
	texts := make([]string, 0, len(opTexts))
	for s := range opTexts {
		texts = append(texts, s)
	}
	slices.Sort(texts)
	return texts
}

// checkOpText expects that a string is accepted exactly if it is the format of an operation.
func checkOpText(t *testing.T, s string) {
	t.Helper()
	want, ok := opTexts[s]
	o, got := impl.ParseOp(s)
	if got != ok || o != want {
		t.Errorf("ParseOp(%.60q) = %+v, %t, want %+v, %t", s, o, got, want, ok)
	}
}

func checkNoOpText(t *testing.T, l ...string) {
	t.Helper()
	for _, s := range l {
		if _, ok := opTexts[s]; ok {
			t.Errorf("this test is wrong: %q is a format", s)
		}
		checkOpText(t, s)
	}
}

func TestAllOperationsAsTexts(t *testing.T) {
	if n := 9 * (4 + 6 + 6*101 + 21 + 2); len(opTexts) != n {
		t.Fatalf("this test is wrong: %d formats, not %d", len(opTexts), n)
	}
	for s, o := range opTexts {
		if got := impl.FormatOp(o); got != s || !impl.IsValidOp(o) {
			t.Errorf("FormatOp(%+v) = %q, want %q", o, got, s)
		}
		checkOpText(t, s)
	}
	for _, c := range []struct {
		s string
		o impl.Op
	}{
		{"b1 committed", impl.Op{Kind: impl.OpBegin, ID: 1, Scheme: impl.SchemeCommitted}}, {"b9 snapshot", impl.Op{Kind: impl.OpBegin, ID: 9, Scheme: impl.SchemeSnapshot}},
		{"b2 optimistic", impl.Op{Kind: impl.OpBegin, ID: 2, Scheme: impl.SchemeOptimistic}}, {"b1 ordered", impl.Op{Kind: impl.OpBegin, ID: 1, Scheme: impl.SchemeOrdered}},
		{"r1 0", impl.Op{Kind: impl.OpRead, ID: 1}}, {"r9 5", impl.Op{Kind: impl.OpRead, ID: 9, Key: impl.MaxKeys - 1}},
		{"w1 3 42", impl.Op{Kind: impl.OpWrite, ID: 1, Key: 3, Value: 42}}, {"w1 3 -", impl.Op{Kind: impl.OpWrite, ID: 1, Key: 3, Value: impl.Absent}},
		{"w1 0 0", impl.Op{Kind: impl.OpWrite, ID: 1}}, {"w9 5 99", impl.Op{Kind: impl.OpWrite, ID: impl.MaxTransactionID, Key: 5, Value: impl.MaxValue}},
		{"s1 0 0", impl.Op{Kind: impl.OpScan, ID: 1}}, {"s1 0 5", impl.Op{Kind: impl.OpScan, ID: 1, High: 5}}, {"s9 5 5", impl.Op{Kind: impl.OpScan, ID: 9, Key: 5, High: 5}}, {"s4 2 3", impl.Op{Kind: impl.OpScan, ID: 4, Key: 2, High: 3}},
		{"c1", impl.Op{Kind: impl.OpCommit, ID: 1}}, {"c9", impl.Op{Kind: impl.OpCommit, ID: 9}}, {"a1", impl.Op{Kind: impl.OpAbort, ID: 1}}, {"a9", impl.Op{Kind: impl.OpAbort, ID: 9}},
	} {
		if got := impl.FormatOp(c.o); got != c.s {
			t.Errorf("FormatOp(%+v) = %q, want %q", c.o, got, c.s)
		}
		if o, ok := impl.ParseOp(c.s); o != c.o || !ok {
			t.Errorf("ParseOp(%q) = %+v, %t, want %+v", c.s, o, ok, c.o)
		}
	}
}

func TestTextOfAbsent(t *testing.T) {
	for id := 1; id <= 9; id++ {
		for key := range 6 {
			o := impl.Op{Kind: impl.OpWrite, ID: id, Key: key, Value: impl.Absent}
			s := impl.FormatOp(o)
			if !strings.HasSuffix(s, " -") {
				t.Errorf("FormatOp(%+v) = %q", o, s)
			}
			if got, ok := impl.ParseOp(s); got != o || !ok {
				t.Errorf("ParseOp(%q) = %+v, %t", s, got, ok)
			}
			for _, end := range []string{"1", "0", "-", " ", "01", " 1", "00", "inf"} {
				checkNoOpText(t, s+end)
			}
			checkNoOpText(t, s[:len(s)-1], s[:len(s)-2]+"-", "r"+s[1:], "s"+s[1:], "c"+s[1:], "b"+s[1:])
		}
	}
	checkNoOpText(t, "w1 3 -1", "w1 3 absent", "w1 - 3", "w1 - -", "w- 3 4", "r1 -", "s1 - 3", "s1 3 -", "s1 - -", "c-", "a-", "b1 -", "b-", "-")
}

func TestInvalidOperationsHaveNoText(t *testing.T) {
	for _, o := range nearOps() {
		if s := impl.FormatOp(o); (s != "") != isOp(o) {
			t.Errorf("FormatOp(%+v) = %q", o, s)
		}
	}
	for _, c := range usedFields {
		for _, n := range append([]int{-2, -1, 0, 6, 10, 100}, farInts...) {
			for _, field := range opFields {
				o := c.o
				*field(&o) = n
				if s := impl.FormatOp(o); (s != "") != isOp(o) {
					t.Errorf("FormatOp(%+v) = %q", o, s)
				}
			}
			o := c.o
			o.Kind = n
			if s := impl.FormatOp(o); (s != "") != isOp(o) {
				t.Errorf("FormatOp(%+v) = %q", o, s)
			}
		}
	}
}

func TestStringsThatAreNoOperations(t *testing.T) {
	checkNoOpText(t, "", " ", "\x00", "b", "r", "w", "s", "c", "a", "1", "9", ";", "1c", "11", "cc", "b1", "r1", "w1", "s1", "w1 3", "s1 3", "b ", "r ", "c ",
		"B1 committed", "R1 0", "W1 0 1", "S1 0 1", "C1", "A1", "d1", "x1", "x1 0", "`1", "t1 0 1", "q1 0", "e1 0", "o1", "read1 0", "commit1", "begin1 ordered",
		"c0", "a0", "r0 1", "b0 ordered", "w0 1 1", "s0 1 1", "c10", "c11", "c99", "r10 0", "c01", "a00", "r01 0", "w01 0 1", "b01 ordered", "c-1", "c+1", "c 1", "r 1 0", "c1.0", "c1e0", "c0x1",
		"c1 ", " c1", "c1 1", "c1 0", "c1 ordered", "a1 ", " a1", "a1 0", "\tc1", "c1\t", "c1\n", "\nc1", "c1\x00", "c1\r", "c1;", ";c1", "c1;c1", "c1,",
		"r1  0", "r1\t0", "r1 0 ", "r1 0 0", "r1 00", "r1 01", "r1 6", "r1 -1", "r1 +1", "r1 -0", "r1 10", "r1 99", "r1 a", "r1 0.", "r1 0x0", "r1,0", "r1 inf", "r10", "r15", " r1 0", "r1 0\n", "r1 ordered",
		"w1 0  1", "w1  0 1", "w1 0 1 ", "w1 0 1 1", "w1 0 01", "w1 0 00", "w1 0 100", "w1 0 -1", "w1 0 +1", "w1 0 -0", "w1 0 -2", "w1 0 999", "w1 6 1", "w1 00 1", "w1 -1 1", "w1 0 a", "w1 0\t1", "w1\t0 1", "w1 0,1", "w1 01", "w10 1", "w1 0 inf", "w1 0 ", "w1 0 1-", "w1 0 --",
		"s1 3 2", "s1 5 4", "s1 1 0", "s1 5 0", "s1 0 6", "s1 6 6", "s1 6 7", "s1 -1 0", "s1 -1 -1", "s1 0 05", "s1 00 5", "s1 0 +5", "s1 0  5", "s1  0 5", "s1 0 5 ", "s1 0 5 0", "s1 0-5", "s1 05", "s1 0 10", "s1 0\t5",
		"b1 committe", "b1 committedd", "b1 committed ", "b1  committed", "b1 Committed", "b1 COMMITTED", "b1 commited", "b1 snapsho", "b1 snapshots", "b1 snap shot", "b1 optimisti", "b1 optimistic1", "b1 pessimistic", "b1 ordere", "b1 order", "b1 ordered0", "b1 ordered ordered", "b1 1", "b1 4", "b1 0", "b1 5", "b1 o", "b1 ", "b1\tordered", "b1ordered", " b1 ordered", "b1 ordered\n", "b1 active", "b1 ok",
		"r4294967297 0", "r1 4294967296", "w1 0 4294967296", "w1 0 -4294967297", "s1 0 4294967301", "c4294967297", "c18446744073709551617", "r1 18446744073709551616", "w1 0 99999999999999999999999999",
	)
}

// brokenRunes are no UTF-8, cut runes, or runes whose low bits are those of a byte of a format.
var brokenRunes = []string{"\xff", "\x80", "\xc3", "\xe2\x82", "\xf0\x9f\x98", "\xc0\xb1", "é", "ß", "１", "٣", "−", "–", "ｃ", "ç", "ţ", "Ţ", "\u0163", "\u0131", "\u0231", "\u3131", "\U00010063", "\ufeff", "\u00a0", "\u2003", "\u200b", "😀", "\ufffd", "\x00", "\x7f", "\x0b", "\x0c"}

func TestRunesInOperations(t *testing.T) {
	for _, s := range []string{"b1 committed", "b2 snapshot", "b3 optimistic", "b9 ordered", "r1 0", "w2 3 -", "w2 3 42", "w9 5 7", "s4 0 5", "c1", "a9"} {
		for _, r := range brokenRunes {
			for i := range len(s) + 1 {
				checkNoOpText(t, s[:i]+r+s[i:])
				if i < len(s) {
					checkNoOpText(t, s[:i]+r+s[i+1:])
				}
			}
			checkNoOpText(t, r, r+r, r+"1", "c"+r)
		}
	}
}

// All strings that are one edit away from the format of an operation; the formats of other operations are among them.
func TestEditsOfOperations(t *testing.T) {
	texts := sortedTexts()
	for i, s := range texts {
		// Most of the formats are those of writes, which differ little.
		if s[0] == 'w' && i%97 != 0 {
			continue
		}
		for at := range len(s) + 1 {
			for b := range 256 {
				c := string([]byte{byte(b)})
				checkOpText(t, s[:at]+c+s[at:])
				if at < len(s) {
					checkOpText(t, s[:at]+c+s[at+1:])
				}
			}
			if at < len(s) {
				checkOpText(t, s[:at]+s[at+1:])
				checkOpText(t, s[:at])
				checkOpText(t, s[at:])
				checkOpText(t, s[:at]+strings.ToUpper(s[at:]))
			}
		}
	}
}

// shortStrings calls check with all strings of up to this number of the bytes.
func shortStrings(bytes string, longest int, check func(s string)) {
	for n := range longest + 1 {
		each := make([]int, n)
		for {
			s := make([]byte, n)
			for i, at := range each {
				s[i] = bytes[at]
			}
			check(string(s))
			i := 0
			for i < n && each[i] == len(bytes)-1 {
				each[i] = 0
				i++
			}
			if i == n {
				break
			}
			each[i]++
		}
	}
}

func TestShortStringsAsOperations(t *testing.T) {
	accepted := 0
	count := func(s string) {
		checkOpText(t, s)
		if _, ok := opTexts[s]; ok {
			accepted++
		}
	}
	shortStrings("brwscaBd016 -;+\t", 4, count)
	shortStrings("rws19 05-", 6, count)
	if accepted < 50 {
		t.Error("only", accepted)
	}
}

func TestLongStringsAsOperations(t *testing.T) {
	for _, c := range []string{"0", "1", "9", " ", "-", ";", "c", "c1", "c1;", "a1 ", "r1 0;", "\x00", "\xff", "é"} {
		for _, n := range []int{61, 1000, 1000000} {
			long := strings.Repeat(c, n)
			checkNoOpText(t, long, "c1"+long, "r1 "+long, "r1 0 "+long, "w1 3 "+long, "w1 3 4"+long, "w1 "+long+" 4", "s1 0 "+long, "s1 0 5"+long, "b1 "+long, "b1 ordered"+long, "c"+long+"1")
			checkNoOpList(t, long, long+"c1", "r1 0;"+long, "w1 3 4"+long)
		}
	}
}

// listOfTexts decides by the definition which operations a string is the format of.
func listOfTexts(s string) ([]impl.Op, bool) {
	if s == "" {
		return nil, true
	}
	var l []impl.Op
	for _, text := range strings.Split(s, ";") {
		o, ok := opTexts[text]
		if !ok {
			return nil, false
		}
		l = append(l, o)
	}
	return l, len(l) <= 60
}

// checkOpList expects that a string is accepted exactly if it is the format of a list of operations.
func checkOpList(t *testing.T, s string) bool {
	t.Helper()
	want, ok := listOfTexts(s)
	if !ok {
		want = nil
	}
	l, got := impl.ParseOps(s)
	if got != ok || !slices.Equal(l, want) {
		t.Errorf("ParseOps(%.100q) = %+v, %t, want %+v, %t", s, l, got, want, ok)
	}
	if ok && impl.FormatOps(l) != s {
		t.Errorf("FormatOps(%+v) = %q, want %q", l, impl.FormatOps(l), s)
	}
	return ok
}

func checkNoOpList(t *testing.T, l ...string) {
	t.Helper()
	for _, s := range l {
		if checkOpList(t, s) {
			t.Errorf("this test is wrong: %.100q is a format", s)
		}
	}
}

func TestListsOfOperations(t *testing.T) {
	for _, l := range [][]impl.Op{nil, {}} {
		if s := impl.FormatOps(l); s != "" {
			t.Errorf("FormatOps(%v) = %q", l, s)
		}
	}
	if l, ok := impl.ParseOps(""); l != nil || !ok {
		t.Errorf("ParseOps of the empty string = %v, %t", l, ok)
	}
	for s, o := range opTexts {
		if got := impl.FormatOps([]impl.Op{o}); got != s {
			t.Errorf("FormatOps of one operation %+v = %q, want %q", o, got, s)
		}
		checkOpList(t, s)
	}
	want := []impl.Op{{Kind: 1, ID: 1, Scheme: 2}, {Kind: 2, ID: 1}, {Kind: 3, ID: 1, Key: 3, Value: -1}, {Kind: 4, ID: 1, High: 5}, {Kind: 5, ID: 1}, {Kind: 6, ID: 2}}
	text := "b1 snapshot;r1 0;w1 3 -;s1 0 5;c1;a2"
	if l, ok := impl.ParseOps(text); !slices.Equal(l, want) || !ok || impl.FormatOps(want) != text {
		t.Errorf("ParseOps(%q) = %+v, %t; FormatOps(%+v) = %q", text, l, ok, want, impl.FormatOps(want))
	}
	random := rand.New(rand.NewSource(18))
	texts := sortedTexts()
	for range 3000 {
		parts := make([]string, random.Intn(70))
		var l []impl.Op
		for i := range parts {
			parts[i] = texts[random.Intn(len(texts))]
			l = append(l, opTexts[parts[i]])
		}
		s := strings.Join(parts, ";")
		checkOpList(t, s)
		if len(parts) > impl.MaxOps {
			s = ""
		}
		if got := impl.FormatOps(l); got != s {
			t.Errorf("FormatOps(%+v) = %q, want %q", l, got, s)
		}
	}
}

func TestNumberOfOperations(t *testing.T) {
	if impl.MaxOps != 60 {
		t.Error("MaxOps is", impl.MaxOps)
	}
	for s, o := range map[string]impl.Op{"c1": opTexts["c1"], "w9 5 -": opTexts["w9 5 -"], "b1 optimistic": opTexts["b1 optimistic"]} {
		for n := range 130 {
			text, l := strings.TrimSuffix(strings.Repeat(s+";", n), ";"), slices.Repeat([]impl.Op{o}, n)
			got, ok := impl.ParseOps(text)
			if n <= impl.MaxOps {
				if !ok || !slices.Equal(got, l) || impl.FormatOps(l) != text {
					t.Errorf("%d operations: ParseOps returns %v, %t, FormatOps %q", n, got, ok, impl.FormatOps(l))
				}
			} else if ok || got != nil || impl.FormatOps(l) != "" {
				t.Errorf("%d operations: ParseOps returns %v, %t, FormatOps %q", n, got, ok, impl.FormatOps(l))
			}
		}
		checkNoOpList(t, strings.Repeat(s+";", 60), strings.Repeat(s+";", 59), ";"+strings.Repeat(s+";", 59)+s, strings.Repeat(";", 59), strings.Repeat(";", 60), strings.Repeat(s+";", 59)+"x")
	}
}

func TestInvalidListsOfOperations(t *testing.T) {
	checkNoOpList(t, ";", ";;", " ", "c1;", ";c1", "c1;;c2", ";c1;", "c1; c2", "c1 ;c2", "c1 ; c2", " c1;c2", "c1;c2 ", "c1;c2;", ";c1;c2", "c1;c2;;", "c1,c2", "c1 c2", "c1\nc2", "c1\n", "c1:c2", "c1;x", "x;c1", "c1;c0;c2", "c0;c1", "c1;c10", "c1;r1", "r1;c1", "r1; 0", "w1 0;1",
		"c1;\xff", "\xff;c1", "c1\xff;c2", "c1\u037ec2", "c1；c2", "c1;é1", "C1;c2", "c1;w1 3 -1", "c1;w1 3 100", "c1;b1 snap", "c1;\x00", "c1\x00;c2")
	valid := []impl.Op{{Kind: 1, ID: 1, Scheme: 2}, {Kind: 3, ID: 1, Key: 3, Value: -1}, {Kind: 5, ID: 1}}
	for i := range len(valid) + 1 {
		for _, wrong := range []impl.Op{{}, {Kind: 1, ID: 1}, {Kind: 2, ID: 1, Key: 6}, {Kind: 3, ID: 1, Value: 100}, {Kind: 3, ID: 1, Value: -2}, {Kind: 4, ID: 1, Key: 3, High: 2}, {Kind: 5, ID: 10}, {Kind: 6}, {Kind: 7, ID: 1}, {Kind: 5, ID: 1, Value: 1}} {
			if l := slices.Insert(slices.Clone(valid), i, wrong); impl.FormatOps(l) != "" {
				t.Errorf("FormatOps(%+v) = %q", l, impl.FormatOps(l))
			}
		}
	}
	for _, o := range nearOps() {
		for _, l := range [][]impl.Op{{o}, {valid[0], o}, {o, valid[0]}} {
			if s := impl.FormatOps(l); (s != "") != isOp(o) {
				t.Errorf("FormatOps(%+v) = %q", l, s)
			}
		}
	}
	texts := []string{"b1 snapshot", "w1 3 -", "c1"}
	for i := range texts {
		for _, wrong := range []string{"", " ", "c0", "C1", "w1 3 -1", "s1 3 2", "b1 snap", "c1 "} {
			l := slices.Clone(texts)
			l[i] = wrong
			checkNoOpList(t, strings.Join(l, ";"))
		}
	}
}

func TestEditsOfListsOfOperations(t *testing.T) {
	accepted := 0
	for _, s := range []string{"c1;a2", "b1 snapshot;r1 0;w1 3 -;w1 3 42;s1 0 5;c1;a2", "w9 5 99;w9 5 9;b3 ordered", "r1 0;r1 0"} {
		for at := range len(s) + 1 {
			for b := range 256 {
				c := string([]byte{byte(b)})
				for _, edited := range []string{s[:at] + c + s[at:], s[:at] + c + s[min(at+1, len(s)):]} {
					if checkOpList(t, edited) {
						accepted++
					}
				}
			}
			checkOpList(t, s[:at])
			checkOpList(t, s[at:])
		}
	}
	shortStrings("c1a2; ", 6, func(s string) {
		if checkOpList(t, s) {
			accepted++
		}
	})
	if accepted < 300 {
		t.Error("only", accepted)
	}
}

// manyOps returns operations of several transactions, with some that are not valid.
func manyOps() []impl.Op {
	return []impl.Op{{Kind: 1, ID: 3, Scheme: 1}, {Kind: 2, ID: 1, Key: 4}, {Kind: 3, ID: 3, Value: -1}, {}, {Kind: 7, ID: 3, Key: -5}, {Kind: 5, ID: -1}, {Kind: 5, ID: 3}, {Kind: 5, ID: 3}, {Kind: 6, ID: 10, High: 8}, {Kind: 2, ID: 9}, {ID: 1}}
}

func TestOpsOf(t *testing.T) {
	l := manyOps()
	for id, want := range map[int][]impl.Op{3: {l[0], l[2], l[4], l[6], l[7]}, 1: {l[1], l[10]}, 9: {l[9]}, 10: {l[8]}, -1: {l[5]}, 0: {l[3]}, 2: nil, 4: nil, 11: nil, -3: nil} {
		if got := impl.OpsOf(l, id); !slices.Equal(got, want) {
			t.Errorf("OpsOf(%v, %d) = %v, want %v", l, id, got, want)
		}
	}
	for _, id := range append([]int{-2, -1, 0, 1, 3, 9, 10}, farInts...) {
		if got := impl.OpsOf(nil, id); len(got) != 0 {
			t.Errorf("OpsOf(nil, %d) = %v", id, got)
		}
		all := make([]impl.Op, 100)
		for i := range all {
			all[i] = impl.Op{Kind: i, ID: id, Key: -i}
		}
		if got := impl.OpsOf(all, id); !slices.Equal(got, all) {
			t.Errorf("OpsOf of operations with the ID %d = %v", id, got)
		}
		if got := impl.OpsOf(all, id^1); len(got) != 0 {
			t.Errorf("OpsOf of operations with the ID %d for %d = %v", id, id^1, got)
		}
		one := slices.Insert(manyOps(), 5, impl.Op{Kind: 2, ID: 77})
		if got := impl.OpsOf(one, 77); !slices.Equal(got, one[5:6]) {
			t.Errorf("OpsOf(%v, 77) = %v", one, got)
		}
	}
	random := rand.New(rand.NewSource(19))
	for range 500 {
		ops := make([]impl.Op, random.Intn(20))
		of := map[int][]impl.Op{}
		for i := range ops {
			ops[i] = anyOp(random)
			of[ops[i].ID] = append(of[ops[i].ID], ops[i])
		}
		for id := -10; id < 20; id++ {
			if got := impl.OpsOf(ops, id); !slices.Equal(got, of[id]) {
				t.Errorf("OpsOf(%v, %d) = %v, want %v", ops, id, got, of[id])
			}
		}
	}
}

func TestEqualOps(t *testing.T) {
	lists := [][]impl.Op{nil, {{}}, {{}, {}}, manyOps(), manyOps()[:5], manyOps()[1:], opsOf(t, "b1 snapshot;r1 0;w1 3 -;c1"), opsOf(t, "b1 snapshot;w1 3 -;r1 0;c1"), slices.Repeat(manyOps(), 30)}
	check := func(a, b []impl.Op, want bool) {
		if impl.EqualOps(a, b) != want || impl.EqualOps(b, a) != want {
			t.Errorf("EqualOps of %v and %v is %t, in the other order %t", a, b, impl.EqualOps(a, b), impl.EqualOps(b, a))
		}
	}
	for i, a := range lists {
		for j, b := range lists {
			check(a, slices.Clone(b), i == j)
		}
		changes := []func(o *impl.Op){func(o *impl.Op) { o.Kind++ }, func(o *impl.Op) { o.Kind-- }}
		for _, field := range opFields {
			changes = append(changes, func(o *impl.Op) { *field(o) += 1 }, func(o *impl.Op) { *field(o) -= 1 }, func(o *impl.Op) { *field(o) += 1 << 32 })
		}
		for _, b := range otherLists(a, changes...) {
			check(a, b, false)
		}
		for n := range a {
			if n > 0 && a[n] != a[n-1] {
				b := slices.Clone(a)
				b[n], b[n-1] = b[n-1], b[n]
				check(a, b, false)
			}
		}
	}
	check(nil, []impl.Op{}, true)
	check(manyOps()[:0], nil, true)
	check([]impl.Op{}, []impl.Op{{}}, false)
}

func TestOpTextArgumentsStay(t *testing.T) {
	valid := opsOf(t, "b1 snapshot;r1 0;w1 3 -;b2 ordered;s1 0 5;r2 4;c1;a2")
	for _, l := range [][]impl.Op{nil, manyOps(), valid, manyOps()[:1], slices.Repeat(valid, 8)} {
		mark := impl.Op{Kind: 5, ID: 3}
		for _, id := range []int{-1, 0, 1, 2, 3, 4, 9, 10} {
			checkListKept(t, "OpsOf", l, mark, func(part []impl.Op) []impl.Op { return impl.OpsOf(part, id) })
		}
		checkListKept(t, "FormatOps", l, mark, func(part []impl.Op) []impl.Op {
			impl.FormatOps(part)
			impl.EqualOps(part, valid)
			impl.EqualOps(valid, part)
			return nil
		})
		a, b := impl.OpsOf(l, 1), impl.OpsOf(l, 1)
		want := slices.Clone(b)
		clear(a[:cap(a)])
		if !slices.Equal(b, want) {
			t.Errorf("two results of OpsOf(%v, 1) share memory", l)
		}
	}
	a, b := opsOf(t, "c1;r1 5"), opsOf(t, "c1;r1 5")
	clear(a[:cap(a)])
	if impl.FormatOps(b) != "c1;r1 5" || impl.FormatOps(opsOf(t, "c1;r1 5")) != "c1;r1 5" {
		t.Errorf("two results of ParseOps share memory: %v", b)
	}
}
