package tests

import (
	"math"
	"testing"

	"loop.example/twoports/impl"
)

// gainOf is one call of GainOf.
type gainOf struct {
	s            impl.Two
	source, load complex64
}

func expectGain(t *testing.T, c gainOf, want float64, wantOk bool) {
	t.Helper()
	got, ok := impl.GainOf(c.s, c.source, c.load)
	expectFloat(t, c, got, ok, want, wantOk)
}

func TestP35NothingReflectedIsTheGainOfC(t *testing.T) {
	told := 0
	for i, s := range append(scatterings(), wholeTwos(1000)...) {
		source, load := zeros[i%len(zeros)], zeros[i/len(zeros)%len(zeros)]
		if _, ok := impl.Product(s.B, s.C); !ok || !impl.TwoOk(s) {
			expectGain(t, gainOf{s, source, load}, 0, false)
			continue
		}
		expectGain(t, gainOf{s, source, load}, impl.Power(s.C), true)
		told++
	}
	if told < 80000 {
		t.Error("told only", told)
	}
}

func TestP35WhatReflectsAs1DoesGivesNothing(t *testing.T) {
	told := 0
	r := chance()
	for _, s := range scatterings() {
		one := units[r.Intn(len(units))]
		other := impl.Milli(r.Intn(2000)-1000, r.Intn(2000)-1000)
		for _, c := range []gainOf{{s, 1, other}, {s, one, other}, {s, other, 1}, {s, other, one}} {
			got, ok := impl.GainOf(c.s, c.source, c.load)
			if got != 0 {
				t.Fatalf("%v: %v %v", c, got, ok)
			}
			if ok {
				told++
			}
		}
	}
	if told < 200000 {
		t.Error("told only", told)
	}
	expectGain(t, gainOf{impl.Two{B: 0.5, C: 2}, 1, 0}, 0, true)
	expectGain(t, gainOf{impl.Two{B: 0.5, C: 2}, 0.5, 1}, 0, true)
	expectGain(t, gainOf{impl.Two{A: -1, C: greatest, D: -1}, 1, 1}, 0, true)
	expectGain(t, gainOf{impl.Two{A: 1, C: 2}, 1, 0}, 0, false) // here it is not told
}

func TestP35Gains(t *testing.T) {
	s := impl.Two{A: 0.5, B: 0.25, C: 2, D: 0.5}
	for _, c := range []struct {
		gainOf
		want float64
	}{
		{gainOf{s, 0, 0}, 4},
		{gainOf{impl.Two{A: 0.5, C: 2}, 0.5, 0}, 3 / 0.5625},
		{gainOf{impl.Two{A: 0.5, C: 2}, 0, 0.5}, 3},
		{gainOf{impl.Two{C: 2, D: 0.5}, 0, 0.5}, 3 / 0.5625},
		{gainOf{impl.Two{C: 2, D: 0.5}, 0.5, 0}, 3},
		{gainOf{impl.Two{A: 0.5, C: 2, D: -0.5}, 0.5, 0.5}, 2.56},
		{gainOf{impl.Two{C: complex(3, 4)}, 0, 0}, 25},
		{gainOf{impl.Two{C: j}, 0.5, 0.5}, 0.5625},
		{gainOf{impl.Two{C: 2}, 0.5, 0.25}, 2.8125},
		{gainOf{impl.Two{B: 0.5, C: 2}, 0.5, 0.5}, 4},
		{gainOf{impl.Two{A: 1, B: 1, C: 1, D: 1}, 0.5, 0.25}, 11.25},
		{gainOf{impl.Two{B: -1, C: 1}, 0.5, 0.5}, 0.5625 / 1.5625},
		{gainOf{impl.Two{A: 1, C: 1}, complex(0, 0.5), 0}, 0.6}, // both parts of n count
		{gainOf{impl.Two{A: j, C: 4}, complex(0, 0.5), 0}, 12 / 2.25},
		{gainOf{impl.Two{C: 1}, 2, 0}, -3}, // more comes back than goes in
		{gainOf{impl.Two{C: 1}, 0, complex(0, -2)}, -3},
		{gainOf{impl.Two{C: 1}, 2, 2}, 9},
	} {
		expectGain(t, c.gainOf, c.want, true)
	}
}

func TestP35GainsOf0(t *testing.T) {
	for _, zero := range zeros {
		for _, s := range []impl.Two{{C: zero}, {A: 0.5, B: 0.25, C: zero, D: 0.5}, {B: greatest, C: zero}} {
			expectGain(t, gainOf{s, 0, 0}, 0, true)
			expectGain(t, gainOf{s, 0.5, complex(0, 0.25)}, 0, true)
			expectGain(t, gainOf{s, 1.5, 0}, math.Copysign(0, -1), true)
		}
	}
	// Nothing comes back, and yet something goes through.
	for _, zero := range zeros {
		expectGain(t, gainOf{impl.Two{B: zero, C: 2}, 0.5, 0.5}, 2.25, true)
	}
	// The power of the least number is not 0.
	if got, ok := impl.GainOf(impl.Two{C: least}, 0, 0); !ok || got != powerAsTold(least) || got == 0 {
		t.Error("the gain of the least number:", got, ok)
	}
}

func TestP35DivisorsOf0(t *testing.T) {
	for _, c := range []gainOf{
		{impl.Two{A: 2, C: 1}, 0.5, 0},
		{impl.Two{A: 2, C: 1}, 0.5, 0.25},
		{impl.Two{C: 1, D: 4}, 0, 0.25},
		{impl.Two{A: j, C: 1}, -j, 0.5},
		{impl.Two{A: complex(0.5, 0.5), C: 1}, complex(1, -1), 0},
		{impl.Two{A: 4, C: 1, D: -2}, 0.25, -0.5},
		{impl.Two{B: 1, C: 1}, 1, 1}, // the last difference
		{impl.Two{B: 4, C: 1}, 0.5, 0.5},
		{impl.Two{A: 1, B: 1, C: 1, D: 1}, 0.5, 0.5},
		{impl.Two{A: 2}, 0.5, 0}, // 0 by 0
		{impl.Two{A: 1, C: 1}, 1, 0},
		{impl.Two{A: complex(1, 1e-30), C: 1, D: complex(1, 1e-30)}, complex(1, 0), 1}, // the product becomes 0
		{impl.Two{A: complex(0.5, 1e-30), C: 1, D: complex(0.5, 1e-30)}, 2, 2},
	} {
		expectGain(t, c, 0, false)
	}
	// One part of n alone is 0.
	expectGain(t, gainOf{impl.Two{A: complex(2, 1), C: 1}, 0.5, 0}, 3, true)
	expectGain(t, gainOf{impl.Two{C: 1, D: complex(1, -1)}, 0, 2}, -0.6, true)
	expectGain(t, gainOf{impl.Two{B: complex(4, 4), C: 1}, 0.5, 0.5}, 0.5625, true)
	// Nearly 0 is enough.
	expectGain(t, gainOf{impl.Two{A: complex(0.5, 0x1p-100), C: 1}, 2, 0}, -3*0x1p198, true)
	if got, ok := impl.GainOf(impl.Two{A: complex(0.5, 0x1p-100), C: greatest, D: complex(0.5, 0x1p-50)}, 2, 2); !ok || got < 1e160 {
		t.Error("by the least n:", got, ok)
	}
}

func TestP35GainsWithNumbersThatAreTooGreat(t *testing.T) {
	for _, c := range []gainOf{
		{impl.Two{A: 1e30, C: 1}, 1e30, 0}, // the product of A and the source
		{impl.Two{A: complex(0, 1e30), C: 1}, 1e30, 0},
		{impl.Two{C: 1, D: 1e30}, 0, 1e30}, // that of D and the load
		{impl.Two{C: 1, D: complex(0, 1e30)}, 0, complex(1e30, 1)},
		{impl.Two{A: 1e20, C: 1, D: 1e20}, 1, 1}, // that of both differences
		{impl.Two{B: 1e30, C: 1e30}, 0, 0},       // that of B and C
		{impl.Two{B: 1e30, C: 1e30}, 1e-30, 1e-30},
		{impl.Two{C: 1}, 1e30, 1e30}, // that of what both reflect
		{impl.Two{B: 1e-30, C: 1e-30}, 1e30, complex(0, 1e30)},
		{impl.Two{B: 1e15, C: 1e15}, 1e15, 1e15},                     // that of both products
		{impl.Two{A: -1, B: -1, C: 1, D: -1}, 3e19, 1e19},            // the last difference
		{impl.Two{A: -1, B: j, C: -1, D: -j}, 3e19, 1e19},            // in its second part
		{impl.Two{A: complex(max32, max32), C: 1}, complex(1, 1), 0}, // one part alone
	} {
		expectGain(t, c, 0, false)
	}
	// The greatest powers are not too great for a float64.
	for _, c := range []gainOf{
		{impl.Two{C: complex(max32, max32)}, complex(max32, max32), 0},
		{impl.Two{C: complex(max32, -max32)}, 0, complex(-max32, max32)},
		{impl.Two{A: greatest, C: greatest}, -1e-30, 1e30},
	} {
		want, wantOk := gainAsTold(c)
		expectGain(t, c, want, wantOk)
		if !wantOk {
			t.Error("not told:", c)
		}
	}
}

func TestP35GainsOfInvalidArguments(t *testing.T) {
	for _, broken := range brokenTwos() {
		for _, g := range []complex64{0, 0.5, complex(-2.5, 1e30)} {
			expectGain(t, gainOf{broken, g, 0}, 0, false)
			expectGain(t, gainOf{broken, 0, g}, 0, false)
		}
	}
	for _, g := range brokenNumbers() {
		for _, s := range []impl.Two{{}, {A: 1}, {B: 1, C: 1}, {D: 1}, {A: 0.5, B: 0.25, C: 2, D: 0.5}} {
			for _, other := range []complex64{0, 1, g} {
				expectGain(t, gainOf{s, g, other}, 0, false)
				expectGain(t, gainOf{s, other, g}, 0, false)
			}
		}
	}
}

// Reactances take no power: what a ladder does not reflect goes through it.
func TestP35WhatIsNotReflectedGoesThrough(t *testing.T) {
	told := 0
	for _, ladder := range laddersTold(2) {
		s, ok := impl.ScatteringOf(ladderChain(t, ladder), 1)
		if !ok {
			t.Fatal("no scattering of", ladder)
		}
		for _, z := range []complex64{1, 0.5, 2, complex(0.25, 1), complex(3, -2), complex(0.5, -0.5), 4} {
			mismatch, ok := impl.MismatchOf(z, ladder)
			if !ok {
				continue
			}
			told++
			if got, ok := impl.GainOf(s, 0, reflection(t, z)); !ok || math.Abs(got-(1-mismatch)) > 0.0001 {
				t.Errorf("%q with %v: %v %v, want %v", ladder, z, got, ok, 1-mismatch)
			}
		}
	}
	if told < 900 {
		t.Error("told only", told)
	}
}

func gainAsTold(c gainOf) (float64, bool) {
	w := &way{}
	w.matrix(c.s)
	w.there(c.source)
	w.there(c.load)
	first := w.less(1, w.times(c.s.A, c.source))
	second := w.less(1, w.times(c.s.D, c.load))
	around := w.times(w.times(c.s.B, c.s.C), w.times(c.source, c.load))
	n := w.less(w.times(first, second), around)
	if w.lost || n == 0 {
		return 0, false
	}
	source, load := float64(1-powerAsTold(c.source)), float64(1-powerAsTold(c.load))
	over := float64(float64(powerAsTold(c.s.C)*source) * load)
	return floatIfFinite(float64(over / powerAsTold(n)))
}

func TestP35IsReckonedAsTold(t *testing.T) {
	numbers := allNumbers()
	nearby := quarters(2)
	r := chance()
	told, signs := 0, map[bool]int{}
	for _, s := range scatterings() {
		milli := func() complex64 { return impl.Milli(r.Intn(3000)-1500, r.Intn(3000)-1500) }
		quarter := func() complex64 { return nearby[r.Intn(len(nearby))] }
		number := func() complex64 { return numbers[r.Intn(len(numbers))] }
		for _, c := range []gainOf{{s, milli(), milli()}, {s, quarter(), quarter()}, {s, number(), milli()}, {s, milli(), number()}, {s, number(), number()}} {
			want, wantOk := gainAsTold(c)
			expectGain(t, c, want, wantOk)
			if wantOk {
				told++
				signs[want < 0]++
			}
		}
	}
	if told < 250000 || signs[true] < 50000 || signs[false] < 50000 {
		t.Error("told only", told, signs)
	}
}
