package tests

import (
	"math"
	"strconv"
	"strings"
	"testing"

	"loop.example/twoports/impl"
)

// tableTold are the eight numbers of the document, each with 0 and not -0.
func tableTold() []complex64 {
	return []complex64{complex(0, 0.25), complex(0, -0.25), complex(0, 0.5), complex(0, -0.5), complex(0, 1), complex(0, -1), complex(0, 2), complex(0, -2)}
}

// laddersTold returns all ladders of at most so many parts, in the order of the document, their digits being numbers to the base 8.
func laddersTold(parts int) []string {
	list := []string{"s", "p"}
	count := 1
	for digits := 1; digits <= parts; digits++ {
		count *= 8
		for _, first := range []string{"s", "p"} {
			for n := range count {
				text := strconv.FormatInt(int64(n), 8)
				list = append(list, first+strings.Repeat("0", digits-len(text))+text)
			}
		}
	}
	return list
}

// noLadders are texts that are no ladders.
func noLadders() []string {
	return []string{
		"", "q", "S", "P", "0", "4", "x0", "r", "t", "o", " ", " s", "\x00", "\xff", "\xffs", "ſ", "ｓ",
		"s8", "s9", "p8", "p9", "s08", "s80", "p009", "p900",
		"s/", "s:", "s ", "s\x00", "s\n", "s\xff", "p\x800", "s-", "s-1", "s+1", "s.", "sa", "s0a", "p00p", "ss", "sp", "ps", "s2p", "4s", "00", "s٣", "s０", "p1\xc0",
		"s0000", "p7777", "s0123", "s00000", "s" + strings.Repeat("0", 1000), "s0008", "p777\x00",
	}
}

// through wants what is seen through a ladder to be told.
func through(t *testing.T, z complex64, s string) complex64 {
	t.Helper()
	seen, ok := impl.LadderSeen(z, s)
	if !ok {
		t.Fatalf("nothing is seen of %v through %q", z, s)
	}
	return seen
}

// ladderChain wants the chain of a ladder to be told.
func ladderChain(t *testing.T, s string) impl.Two {
	t.Helper()
	m, ok := impl.LadderChain(s)
	if !ok {
		t.Fatalf("no chain of %q", s)
	}
	return m
}

func TestP59TheTableOfParts(t *testing.T) {
	for k, want := range tableTold() {
		if got := impl.TablePart(k); !same(got, want) {
			t.Errorf("%d: got %v, want %v", k, got, want)
		}
	}
	for _, k := range []int{-1, -2, -7, -8, 8, 9, 10, 15, 16, 1 << 32, -1 << 32, math.MinInt, math.MaxInt} {
		if got := impl.TablePart(k); !same(got, 0) {
			t.Errorf("%d is no part, but %v", k, got)
		}
	}
}

func TestP59PartsComeInPairs(t *testing.T) {
	for k := -100; k <= 100; k += 2 {
		if first, second := impl.TablePart(k), impl.TablePart(k+1); first+second != 0 || k >= 0 && k < 8 && first == 0 {
			t.Errorf("%d and the next one: %v and %v", k, first, second)
		}
	}
}

func TestP60LaddersCanBeShorter(t *testing.T) {
	ladders := laddersTold(3)
	if len(ladders) != 2*(1+8+64+512) {
		t.Fatal(len(ladders))
	}
	for _, s := range ladders {
		for ; len(s) > 0; s = s[:len(s)-1] {
			if !impl.LadderOk(s) {
				t.Errorf("%q is no ladder", s)
			}
		}
	}
}

func TestP60WhatIsALadder(t *testing.T) {
	ok := map[string]bool{}
	for _, s := range laddersTold(3) {
		ok[s] = true
	}
	for _, s := range append([]string{"", "q", "0", "s8", "p/"}, laddersTold(3)...) {
		for b := range 256 {
			longer := s + string([]byte{byte(b)})
			if impl.LadderOk(longer) != ok[longer] {
				t.Errorf("%q: %v", longer, !ok[longer])
			}
		}
	}
	for _, s := range noLadders() {
		if impl.LadderOk(s) {
			t.Errorf("%q is a ladder", s)
		}
	}
}

func TestP30P31P32TextsThatAreNoLadders(t *testing.T) {
	for _, s := range noLadders() {
		for _, z := range []complex64{1, 0, complex(3, -4), complex(inf32, 0)} {
			seen, ok := impl.LadderSeen(z, s)
			expect(t, "through no ladder", seen, ok, 0, false)
			if mismatch, ok := impl.MismatchOf(z, s); ok || mismatch != 0 {
				t.Errorf("the mismatch of %v through %q: %v %v", z, s, mismatch, ok)
			}
		}
		m, ok := impl.LadderChain(s)
		expectNone(t, "the chain of no ladder", m, ok)
	}
}

func TestP30WithoutPartsTheImpedanceIsSeen(t *testing.T) {
	for _, z := range finiteNumbers() {
		for _, s := range []string{"s", "p"} {
			got, ok := impl.LadderSeen(z, s)
			expect(t, "without parts", got, ok, z, true)
		}
	}
}

func TestP30PairsInTheWayCancel(t *testing.T) {
	for _, z := range append(wholeNumbers(), zeros...) {
		for k, part := range tableTold() {
			behind := through(t, z, "s"+strconv.Itoa(k))
			if behind != z+part {
				t.Fatalf("%v with the part %d: %v", z, k, behind)
			}
			if back := through(t, behind, "s"+strconv.Itoa(k^1)); back != z {
				t.Fatalf("%v with the parts %d and %d: %v", z, k, k^1, back)
			}
		}
	}
}

func TestP30PairsAcrossNearlyCancel(t *testing.T) {
	for _, z := range wholeNumbers(1, 2, 3, 5, 10) {
		for k := range 8 {
			behind := through(t, z, "p"+strconv.Itoa(k))
			if back := through(t, behind, "p"+strconv.Itoa(k^1)); !impl.Near(back, z, 0.001) {
				t.Fatalf("%v with the parts %d and %d across: %v", z, k, k^1, back)
			}
		}
	}
}

func TestP30WhatIsSeenThroughALadder(t *testing.T) {
	for _, c := range []struct {
		z    complex64
		s    string
		want complex64
	}{
		{complex(1, -1), "s4", 1},
		{complex(0.5, 0.5), "p4", 1},
		{0.5, "s2", complex(0.5, 0.5)},
		{0.5, "s24", 1},
		{2, "p2", complex(1, -1)},
		{2, "p24", 1},
		{2, "p25", complex(1, -2)},
		{1, "s444", 1},
		{1, "p444", 1},
		{1, "s456", complex(0.2, 2.6)},
		{1, "p456", complex(0.029411765, -0.38235294)},
		{0, "s6", complex(0, 2)},
		{0, "s67", complex(0, 0.4)},
		{0, "s670", complex(0, 0.65)},
		{-1, "s4", complex(-1, 1)},
		{-1, "p4", complex(-0.5, -0.5)},
		{-1, "p5", complex(-0.5, 0.5)},
		{complex(3, -0.25), "s0", 3},
		{-j, "s4", 0}, // the parts cancel, and nothing is divided by it
		{2 * j, "s7", 0},
		{complex(0, 0.5), "p45", 0},
		{greatest, "s7", complex(max32, -2)},
		{complex(max32, max32), "s6", complex(max32, max32)}, // the sum is rounded, and not too great
		{3e-39, "p4", 3e-39},                                 // the quotient is great, and not too great
	} {
		if got := through(t, c.z, c.s); !impl.Near(got, c.want, 3e-7) {
			t.Errorf("%v through %q: got %v, want %v", c.z, c.s, got, c.want)
		}
	}
}

func TestP30DivisorsOf0(t *testing.T) {
	for _, zero := range zeros {
		for k := range 8 {
			for _, more := range []string{"", "4", "40"} {
				got, ok := impl.LadderSeen(zero, "p"+strconv.Itoa(k)+more)
				expect(t, "0 with a part across", got, ok, 0, false)
			}
		}
	}
	for _, c := range []struct {
		z complex64
		s string
	}{
		{4 * j, "p0"}, // the sum across is 0
		{-4 * j, "p1"},
		{2 * j, "p2"},
		{-2 * j, "p3"},
		{j, "p4"},
		{-j, "p5"},
		{0.5 * j, "p6"},
		{-0.5 * j, "p7"},
		{j, "p45"},
		{-j, "s40"}, // what is seen is 0 where the next one is across
		{-0.25 * j, "s07"},
		{2 * j, "s741"},
		{0, "s44"}, // and the sum across behind a part in the way
		{0, "s55"},
		{0, "s62"},
		{complex(0, 0.5), "p450"}, // and what is seen behind two parts
	} {
		got, ok := impl.LadderSeen(c.z, c.s)
		expect(t, "with the divisor 0", got, ok, 0, false)
	}
}

func TestP30NumbersThatAreTooGreat(t *testing.T) {
	for _, c := range []struct {
		z complex64
		s string
	}{
		{1e-40, "p4"}, // the first quotient
		{complex(0, -1e-39), "p4"},
		{least, "p77"},
		{complex(least32, least32), "p0"},
		{complex(1.6e-39, 4), "p0"}, // the second one
		{complex(-1e-40, 1), "p450"},
		{complex(1e-40, -1), "s40"},   // the first one behind a part in the way
		{complex(1e-40, 0.5), "p450"}, // and behind two parts
	} {
		got, ok := impl.LadderSeen(c.z, c.s)
		expect(t, "with a number that is too great", got, ok, 0, false)
		if mismatch, ok := impl.MismatchOf(c.z, c.s); ok || mismatch != 0 {
			t.Errorf("the mismatch of %v through %q: %v %v", c.z, c.s, mismatch, ok)
		}
	}
	for _, broken := range brokenNumbers() {
		for _, s := range laddersTold(2) {
			got, ok := impl.LadderSeen(broken, s)
			expect(t, "of no impedance", got, ok, 0, false)
		}
	}
}

func TestP31LaddersAreChains(t *testing.T) {
	told := 0
	for _, s := range laddersTold(3) {
		m := ladderChain(t, s)
		if d, ok := impl.Determinant(m); !ok || d != 1 {
			t.Errorf("%q has the determinant %v %v", s, d, ok)
		}
		seen, seenOk := impl.LadderSeen(1, s)
		behind, ok := impl.SeenAt(m, 1)
		if !seenOk || !ok || !impl.Near(seen, 0, 10) {
			continue
		}
		told++
		if !impl.Near(behind, seen, 0.01) {
			t.Errorf("1 through %q: %v, and through its chain %v", s, seen, behind)
		}
	}
	if told < 1000 {
		t.Error("told only", told)
	}
}

func TestP31WithOtherImpedancesBehind(t *testing.T) {
	for _, z := range []complex64{0.5, 2, complex(1, 1), complex(3, -2), complex(0.25, 0.75)} {
		for _, s := range laddersTold(3) {
			if seen := through(t, z, s); impl.Near(seen, 0, 10) {
				if behind, ok := impl.SeenAt(ladderChain(t, s), z); !ok || !impl.Near(behind, seen, 0.01) {
					t.Errorf("%v through %q: %v, and through its chain %v %v", z, s, seen, behind, ok)
				}
			}
		}
	}
}

func TestP31Chains(t *testing.T) {
	for _, c := range []struct {
		s    string
		want impl.Two
	}{
		{"s", wire},
		{"p", wire},
		{"s4", impl.Two{A: 1, B: j, D: 1}},
		{"p4", impl.Two{A: 1, C: j, D: 1}},
		{"s7", impl.Two{A: 1, B: -2 * j, D: 1}},
		{"p1", impl.Two{A: 1, C: -0.25 * j, D: 1}},
		{"s44", impl.Two{A: 1, B: j, C: j}}, // across is the first one to be seen
		{"p44", impl.Two{B: j, C: j, D: 1}}, // in the way is the first one
		{"s02", impl.Two{A: 1, B: 0.25 * j, C: 0.5 * j, D: 0.875}},
		{"p02", impl.Two{A: 0.875, B: 0.5 * j, C: 0.25 * j, D: 1}},
		{"s024", impl.Two{A: 0.5, B: 1.125 * j, C: 0.5 * j, D: 0.875}},
		{"p024", impl.Two{A: 0.875, B: 0.5 * j, C: 1.125 * j, D: 0.5}},
		{"s777", impl.Two{A: -3, B: 4 * j, C: -2 * j, D: -3}},
	} {
		if got := ladderChain(t, c.s); got != c.want {
			t.Errorf("%q: got %v, want %v", c.s, got, c.want)
		}
	}
}

// seenThroughAsTold does with the turns by going from one to the other.
func seenThroughAsTold(z complex64, s string) (complex64, bool) {
	w := &way{}
	w.there(z)
	across := s[0] == 'p'
	for _, digit := range s[1:] {
		part := tableTold()[digit-'0']
		if across {
			z = w.by(1, w.plus(w.by(1, z), part))
		} else {
			z = w.plus(z, part)
		}
		across = !across
	}
	return w.number(z)
}

// ladderChainAsTold goes from the last digit to the first one.
func ladderChainAsTold(s string) (impl.Two, bool) {
	m, ok := wire, true
	for i := len(s) - 1; i > 0 && ok; i-- {
		part := impl.Two{A: 1, D: 1}
		// With s ahead the first, the third digit is in the way, with p the second one.
		if (i%2 == 1) == (s[0] == 's') {
			part.B = tableTold()[s[i]-'0']
		} else {
			part.C = tableTold()[s[i]-'0']
		}
		m, ok = cascadeAsTold(m, part)
	}
	return m, ok
}

// What is seen is reckoned by Go's operators in the order told, down to the signs of zero.
func TestP30P31AreReckonedAsTold(t *testing.T) {
	numbers := append(pairs([]float32{0, minus0, least32, 1e-39, 0.1, 0.25, -0.5, 1, -1, 2, -4, 50, 1e30, max32, -max32}), takers()[:200]...)
	told := 0
	for _, s := range laddersTold(3) {
		m, ok := impl.LadderChain(s)
		want, wantOk := ladderChainAsTold(s)
		expectTwo(t, "LadderChain of "+s, m, ok, want, wantOk)
		for _, z := range numbers {
			got, ok := impl.LadderSeen(z, s)
			seen, seenOk := seenThroughAsTold(z, s)
			if ok != seenOk || !same(got, seen) {
				t.Fatalf("%v through %q: got %v %v, want %v %v", z, s, got, ok, seen, seenOk)
			}
			if ok {
				told++
			}
		}
	}
	if told < 400000 {
		t.Error("told only", told)
	}
}
