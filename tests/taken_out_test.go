package tests

import (
	"testing"

	"loop.example/twoports/impl"
)

// expectTakenOut reports what lies between two others if it is not the one wanted.
func expectTakenOut(t *testing.T, first, all, last, want impl.Two, wantOk bool) {
	t.Helper()
	if got, ok := impl.TakenOut(first, all, last); ok != wantOk || !sameTwo(got, want) {
		t.Errorf("%v and %v taken out of %v: got %v %v, want %v %v", first, last, all, got, ok, want, wantOk)
	}
}

func takenOutAsTold(first, all, last impl.Two) (impl.Two, bool) {
	firstInverse, firstOk := inverseAsTold(first)
	lastInverse, lastOk := inverseAsTold(last)
	rest, restOk := cascadeAsTold(firstInverse, all)
	between, ok := cascadeAsTold(rest, lastInverse)
	if !firstOk || !lastOk || !restOk || !ok {
		return noTwo, false
	}
	return between, true
}

// smallUnitTwos returns matrices with whole parts of at most 10 in absolute value, and the Determinant 1.
func smallUnitTwos() []impl.Two {
	list := []impl.Two{{A: -1, D: -1}, {A: 1, B: complex(10, -10), D: 1}, {A: 1, C: complex(-10, 10), D: 1}, {B: 1, C: -1, D: complex(10, 10)}, {A: complex(-10, 10), B: -1, C: 1}, {A: j, D: -j}}
	for _, m := range unitTwos(1) {
		if hasPartsUpTo(m, 10) {
			list = append(list, m)
		}
	}
	return list
}

func TestP45WhatIsPutBetweenIsTakenOut(t *testing.T) {
	outer := smallUnitTwos()
	if len(outer) < 200 {
		t.Fatal("too few matrices with the Determinant 1:", len(outer))
	}
	for i, between := range wholeTwos(8) {
		first, last := outer[i%len(outer)], outer[(i*7+3)%len(outer)]
		// By ==, as sums may turn -0 into 0.
		if got, ok := impl.TakenOut(first, times(times(first, between), last), last); !ok || got != between {
			t.Fatalf("%v between %v and %v: got %v %v", between, first, last, got, ok)
		}
	}
	most := impl.Two{A: complex(8, 8), B: complex(-8, 8), C: complex(8, -8), D: complex(8, 8)}
	for _, first := range outer {
		for _, last := range outer {
			if got, ok := impl.TakenOut(first, times(times(first, most), last), last); !ok || got != most {
				t.Fatalf("%v between %v and %v: got %v %v", most, first, last, got, ok)
			}
		}
	}
}

func TestP45WhatIsTakenOut(t *testing.T) {
	wire := impl.Two{A: 1, D: 1}
	series := func(z complex64) impl.Two { return impl.Two{A: 1, B: z, D: 1} }
	shunt := func(y complex64) impl.Two { return impl.Two{A: 1, C: y, D: 1} }
	for _, c := range []struct{ first, all, last, want impl.Two }{
		{wire, wire, wire, wire},
		{wire, impl.Two{A: 1, B: 2, C: 3, D: 4}, wire, impl.Two{A: 1, B: 2, C: 3, D: 4}},
		{series(2), series(5), wire, series(3)},
		{wire, series(5), series(2), series(3)},
		{series(2), series(5 * j), series(1), series(complex(-3, 5))},
		{series(1), impl.Two{A: 3, B: 4, C: 2, D: 3}, series(1), shunt(2)},
		{series(1), impl.Two{A: 1, B: 1, C: 2, D: 3}, wire, impl.Two{A: -1, B: -2, C: 2, D: 3}},
		{wire, impl.Two{A: 1, B: 1, C: 2, D: 3}, series(1), impl.Two{A: 1, C: 2, D: 1}},
		{impl.Two{A: 2, D: 0.5}, impl.Two{A: 2, B: 4, C: 1, D: 2}, impl.Two{A: 4, D: 0.25}, impl.Two{A: 0.25, B: 8, C: 0.5, D: 16}},
		{impl.Two{A: 2, D: 4}, impl.Two{A: 2, B: 4, C: 1, D: 2}, impl.Two{A: j, D: 1}, impl.Two{A: -j, B: 2, C: -0.25 * j, D: 0.5}}, // neither Determinant is 1
		{series(1), noTwo, shunt(1), noTwo},
	} {
		if got, ok := impl.TakenOut(c.first, c.all, c.last); !ok || got != c.want {
			t.Errorf("%v and %v taken out of %v: got %v %v, want %v", c.first, c.last, c.all, got, ok, c.want)
		}
	}
}

func TestP45MatricesWithoutAnInverse(t *testing.T) {
	good := []impl.Two{{A: 1, D: 1}, {A: 1, B: 2, D: 1}, {A: j, D: 2}}
	flat := []impl.Two{
		noTwo,
		{A: 1, B: 1, C: 1, D: 1},
		{A: 1},
		{B: 5},
		{A: 2, B: j, C: -4 * j, D: 2},
		{A: complex(minus0, 0), B: complex(0, minus0), C: 1},
		{A: least, D: least}, // the product of both is 0
	}
	broken := []impl.Two{
		{A: greatest, D: greatest},                    // the first product
		{B: complex(0, 1e20), C: 1e20, A: 1},          // the second one
		{A: 3e38, B: -1, C: 3e38, D: 1},               // their difference
		{A: 1e-30, D: 1e-10, B: 1},                    // a quotient
		{A: 1e20, B: greatest, D: complex(0, -1e-30)}, // another one
	}
	for _, bad := range append(flat, broken...) {
		for _, other := range good {
			for _, all := range append(good, noTwo) {
				expectTakenOut(t, bad, all, other, noTwo, false)
				expectTakenOut(t, other, all, bad, noTwo, false)
				expectTakenOut(t, bad, all, bad, noTwo, false)
			}
			// What has no inverse may be what lies between.
			if _, ok := impl.TakenOut(other, flat[1], other); !ok {
				t.Errorf("%v is not taken out", other)
			}
		}
	}
}

func TestP45ProductsThatBecomeTooGreat(t *testing.T) {
	wire := impl.Two{A: 1, D: 1}
	little, great := impl.Two{A: 1e-10, D: 1e-10}, impl.Two{A: 1e10, D: 1e10}
	for _, at := range []impl.Two{{A: 3e38}, {B: complex(1, 3e38)}, {C: -3e38}, {D: complex(0, -3e38)}} {
		expectTakenOut(t, little, at, wire, noTwo, false)
		expectTakenOut(t, wire, at, little, noTwo, false)
		// What is too great ahead stays so, whatever comes behind.
		expectTakenOut(t, little, at, great, noTwo, false)
		// The first one is taken out first.
		if got, ok := impl.TakenOut(great, at, little); !ok || !impl.NearTwo(got, at, 1e33) {
			t.Errorf("%v: got %v %v", at, got, ok)
		}
		if got, ok := impl.TakenOut(wire, at, wire); !ok || got != at {
			t.Errorf("%v: got %v %v", at, got, ok)
		}
	}
	// A sum of two products.
	both := impl.Two{A: 3e38, B: 3e38, C: 3e38, D: 3e38}
	expectTakenOut(t, impl.Two{A: 1, B: -1, D: 1}, both, wire, noTwo, false)
	expectTakenOut(t, wire, both, impl.Two{A: 1, B: -1, D: 1}, noTwo, false)
	expectTakenOut(t, impl.Two{A: 1, B: 1, D: 1}, both, wire, impl.Two{C: 3e38, D: 3e38}, true)
}

func TestP45MatricesThatAreNone(t *testing.T) {
	good := []impl.Two{{A: 1, D: 1}, {A: 1, B: 2, C: 3, D: 4}, noTwo}
	for _, broken := range brokenTwos() {
		for _, m := range good {
			expectTakenOut(t, broken, m, m, noTwo, false)
			expectTakenOut(t, m, broken, m, noTwo, false)
			expectTakenOut(t, m, m, broken, noTwo, false)
			expectTakenOut(t, broken, broken, broken, noTwo, false)
		}
	}
}

// What lies between is reckoned by Go's operators in the order told, down to the signs of zero.
func TestP45IsReckonedAsTold(t *testing.T) {
	told := map[bool]int{}
	r := chance()
	for _, list := range [][]impl.Two{mixedTwos(), wholeTwos(8), thousandthTwos()} {
		for range 40000 {
			pick := func() impl.Two { return list[r.Intn(len(list))] }
			first, all, last := pick(), pick(), pick()
			want, wantOk := takenOutAsTold(first, all, last)
			expectTakenOut(t, first, all, last, want, wantOk)
			told[wantOk]++
			if t.Failed() {
				return
			}
		}
	}
	if told[true] < 70000 || told[false] < 20000 {
		t.Error("told only", told)
	}
}
