package tests

import (
	"math"
	"testing"

	"loop.example/twoports/impl"
)

// toBeMatched are impedances of all kinds: with resistances of at least 0 and below it, and with parts at the edges.
func toBeMatched() []complex64 {
	list := append(takers()[:400], zeros...)
	list = append(list, pairs([]float32{0, minus0, least32, 1e-39, 0.25, -0.25, 0.5, 1, -1, 2, -3, 1e30, max32, -max32})...)
	return append(list, 1e-40, complex(-1, 1e-40), complex(1, -1), complex(0.5, 0.5), complex(1.6e-39, 4))
}

func expectMismatch(t *testing.T, z complex64, s string, want float64, wantOk bool) {
	t.Helper()
	if got, ok := impl.MismatchOf(z, s); got != want || ok != wantOk {
		t.Errorf("the mismatch of %v through %q: got %v %v, want %v %v", z, s, got, ok, want, wantOk)
	}
}

func expectLadder(t *testing.T, z complex64, parts int, want string, wantOk bool) {
	t.Helper()
	if got, ok := impl.BestLadder(z, parts); got != want || ok != wantOk {
		t.Errorf("%v with %d parts: got %q %v, want %q %v", z, parts, got, ok, want, wantOk)
	}
}

func TestP32WhatTakesPowerReflectsNoMore(t *testing.T) {
	told := 0
	ladders := laddersTold(3)
	for _, z := range takers()[:1400] {
		for _, s := range ladders {
			mismatch, ok := impl.MismatchOf(z, s)
			if !ok {
				continue
			}
			told++
			if mismatch < 0 || mismatch > 1.001 {
				t.Fatalf("the mismatch of %v through %q: %v", z, s, mismatch)
			}
		}
	}
	if told < 1500000 {
		t.Error("told only", told)
	}
}

func TestP32Mismatches(t *testing.T) {
	for _, c := range []struct {
		z    complex64
		s    string
		want float64
	}{
		{1, "s", 0},
		{1, "p", 0},
		{3, "s", 0.25},
		{3, "p", 0.25},
		{complex(1, 2), "s", 0.5}, // both parts count
		{complex(1, -2), "p", 0.5},
		{complex(1, -1), "s4", 0},
		{complex(0.5, 0.5), "p4", 0},
		{0.5, "s24", 0},
		{1, "s444", 0},
		{1, "s6", 0.5},
		{0, "s", 1},
		{0, "p", 1},
		{-3, "s", 4}, // what gives power reflects more
		{complex(-1, -0.25), "s", 65},
	} {
		expectMismatch(t, c.z, c.s, c.want, true)
	}
}

func TestP32MismatchesThatAreNotTold(t *testing.T) {
	for _, s := range []string{"s", "p"} {
		expectMismatch(t, -1, s, 0, false)
		expectMismatch(t, complex(-1, minus0), s, 0, false)
		expectMismatch(t, complex(-1, 1e-40), s, 0, false) // the quotient is too great
	}
	expectMismatch(t, complex(-1, -0.25), "s0", 0, false) // the parts cancel, and -1 is left
	expectMismatch(t, 0, "p4", 0, false)
	expectMismatch(t, -j, "s40", 0, false)
	for _, broken := range brokenNumbers() {
		for _, s := range laddersTold(1) {
			expectMismatch(t, broken, s, 0, false)
		}
	}
}

// mismatchAsTold reckons the squares in float64.
func mismatchAsTold(z complex64, s string) (float64, bool) {
	seen, ok := seenThroughAsTold(z, s)
	if !ok {
		return 0, false
	}
	g, ok := reflectionAsTold(seen, 1)
	re, im := float64(real(g)), float64(imag(g))
	return re*re + im*im, ok
}

func TestP32IsReckonedAsTold(t *testing.T) {
	told := 0
	ladders := laddersTold(3)
	for _, z := range append(toBeMatched(), brokenNumbers()...) {
		for _, s := range ladders {
			want, wantOk := mismatchAsTold(z, s)
			expectMismatch(t, z, s, want, wantOk)
			if wantOk {
				told++
			}
		}
	}
	if told < 500000 {
		t.Error("told only", told)
	}
}

func TestP33NoLadderIsBetter(t *testing.T) {
	for _, z := range toBeMatched() {
		before := math.Inf(1)
		for parts := range 4 {
			best, ok := impl.BestLadder(z, parts)
			if !ok {
				continue
			}
			mismatch, told := impl.MismatchOf(z, best)
			if !told || len(best) > 1+parts {
				t.Fatalf("%v with %d parts: %q", z, parts, best)
			}
			if mismatch > before {
				t.Fatalf("%v with %d parts: %v, though with fewer it is %v", z, parts, mismatch, before)
			}
			before = mismatch
			for _, s := range laddersTold(min(parts, 2)) {
				if other, ok := impl.MismatchOf(z, s); ok && other < mismatch {
					t.Fatalf("%v with %d parts: %q has %v, though %q has %v", z, parts, best, mismatch, s, other)
				}
			}
		}
	}
}

func TestP33TheBestLadder(t *testing.T) {
	for _, c := range []struct {
		z     complex64
		parts int
		want  string
	}{
		{1, 0, "s"}, // it is matched already
		{1, 1, "s"},
		{1, 2, "s"},
		{1, 3, "s"},
		{complex(1, minus0), 3, "s"},
		{complex(1, -1), 0, "s"},
		{complex(1, -1), 1, "s4"},
		{complex(1, -1), 2, "s4"},
		{complex(1, -1), 3, "s4"},
		{complex(1, 0.5), 3, "s3"},
		{complex(1, 2), 1, "s7"},
		{complex(0.5, 0.5), 1, "p4"},
		{complex(0.5, 0.5), 3, "p4"},
		{complex(0.5, -0.5), 2, "p5"},
		{0.5, 0, "s"},
		{0.5, 1, "s"}, // no part of one makes it better
		{0.5, 2, "s24"},
		{0.5, 3, "s24"},
		{2, 2, "p24"},
		{2, 3, "p24"},
		{-1, 1, "s6"},
		{greatest, 0, "s"},
		{0, 0, "s"},
	} {
		expectLadder(t, c.z, c.parts, c.want, true)
	}
}

// Of equally good ladders the first one is taken: with fewer parts, then with s, then with lesser digits.
func TestP33OfEquallyGoodLaddersTheFirstOne(t *testing.T) {
	for _, c := range []struct {
		z           complex64
		parts       int
		best, other string
	}{
		{1, 3, "s", "p"},
		{1, 3, "s", "s444"},
		{0.5, 2, "s24", "s35"},
		{2, 2, "p24", "p35"},
	} {
		expectLadder(t, c.z, c.parts, c.best, true)
		best, bestOk := impl.MismatchOf(c.z, c.best)
		other, otherOk := impl.MismatchOf(c.z, c.other)
		if !bestOk || !otherOk || best != other {
			t.Errorf("%v: %q has %v %v, %q has %v %v", c.z, c.best, best, bestOk, c.other, other, otherOk)
		}
	}
}

func TestP33WithoutABestLadder(t *testing.T) {
	for _, parts := range []int{-1, -2, -3, 4, 5, 8, 1 << 32, -1 << 32, math.MinInt, math.MaxInt} {
		for _, z := range []complex64{1, 0, -1, complex(1, -1), complex(inf32, 0)} {
			expectLadder(t, z, parts, "", false)
		}
	}
	for _, broken := range brokenNumbers() {
		for parts := range 4 {
			expectLadder(t, broken, parts, "", false)
		}
	}
	expectLadder(t, -1, 0, "", false)
	expectLadder(t, complex(-1, minus0), 0, "", false)
	expectLadder(t, complex(-1, 1e-40), 0, "", false)
}

// bestAsTold takes the first one of those that no ladder has less mismatch than.
func bestAsTold(z complex64, ladders []string) (string, bool) {
	least := math.Inf(1)
	for _, s := range ladders {
		if mismatch, ok := mismatchAsTold(z, s); ok {
			least = min(least, mismatch)
		}
	}
	for _, s := range ladders {
		if mismatch, ok := mismatchAsTold(z, s); ok && mismatch == least {
			return s, true
		}
	}
	return "", false
}

func TestP33TheFirstOneOfTheBest(t *testing.T) {
	lists := [][]string{laddersTold(0), laddersTold(1), laddersTold(2), laddersTold(3)}
	begin, length := map[byte]int{}, map[int]int{}
	for _, z := range append(toBeMatched(), brokenNumbers()...) {
		for parts, ladders := range lists {
			want, wantOk := bestAsTold(z, ladders)
			expectLadder(t, z, parts, want, wantOk)
			if wantOk {
				begin[want[0]]++
				length[len(want)]++
			}
		}
	}
	for parts := range 4 {
		if length[1+parts] < 50 {
			t.Error("too seldom the best:", length)
		}
	}
	if begin['s'] < 500 || begin['p'] < 500 {
		t.Error("too seldom the best:", begin)
	}
}
