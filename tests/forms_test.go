package tests

import (
	"math"
	"testing"

	"loop.example/twoports/impl"
)

func TestP7ExchangedRowsTurnTheSign(t *testing.T) {
	for _, m := range wholeTwos(1000) {
		d, ok := impl.Determinant(m)
		other, otherOk := impl.Determinant(rowsExchanged(m))
		if !ok || !otherOk || other != -d {
			t.Fatalf("%v: %v %v, with both rows exchanged %v %v", m, d, ok, other, otherOk)
		}
	}
}

func TestP7WholeDeterminants(t *testing.T) {
	for _, m := range wholeTwos(1000) {
		d, ok := impl.Determinant(m)
		if want := wholeProduct(m.A, m.D) - wholeProduct(m.B, m.C); !ok || d != want {
			t.Fatalf("%v: %v %v, want %v", m, d, ok, want)
		}
	}
	got, ok := impl.Determinant(impl.Two{A: 2, B: complex(0, 1), C: complex(0, 1), D: complex(3, 1)})
	expect(t, "a determinant", got, ok, complex(7, 2), true)
	got, ok = impl.Determinant(impl.Two{A: 2, B: 2, C: 1, D: 1})
	expect(t, "a determinant of 0", got, ok, 0, true)
	got, ok = impl.Determinant(noTwo)
	expect(t, "of zeros", got, ok, 0, true)
}

func TestP7DeterminantsThatAreNotTold(t *testing.T) {
	for _, m := range []impl.Two{
		{A: 1e30, D: 1e30},
		{B: 1e30, C: 1e30},
		{A: 1e30, B: 1e30, C: 1e30, D: 1e30},
		{A: greatest, B: -greatest, C: 1, D: 1},
		{A: complex(0, max32), B: complex(0, 3e38), C: -1, D: 1},
	} {
		got, ok := impl.Determinant(m)
		expect(t, "too great a determinant", got, ok, 0, false)
	}
	got, ok := impl.Determinant(impl.Two{A: greatest, B: greatest, C: 1, D: 1})
	expect(t, "of the greatest", got, ok, 0, true)
	for _, m := range brokenTwos() {
		got, ok = impl.Determinant(m)
		expect(t, "of what is no matrix", got, ok, 0, false)
	}
}

func TestP8ForthAndBackIsNothing(t *testing.T) {
	list := wholeTwos(100)
	for i, m := range list {
		m.C = units[i%len(units)]
		once, ok := impl.OtherForm(m)
		twice, twiceOk := impl.OtherForm(once)
		if !ok || !twiceOk || twice != m {
			t.Fatalf("%v: %v %v, twice %v %v", m, once, ok, twice, twiceOk)
		}
	}
}

func TestP8ForthAndBackIsNear(t *testing.T) {
	for _, m := range wholeTwos(20) {
		once, ok := impl.OtherForm(m)
		if m.C == 0 {
			expectNone(t, "with C being 0", once, ok)
			continue
		}
		twice, twiceOk := impl.OtherForm(once)
		if !ok || !twiceOk || !impl.NearTwo(twice, m, 0.05) {
			t.Fatalf("%v: %v %v, twice %v %v", m, once, ok, twice, twiceOk)
		}
	}
}

func TestP8OtherForms(t *testing.T) {
	for _, c := range []struct{ m, want impl.Two }{
		{impl.Two{A: 2, B: complex(0, 1), C: complex(0, 1), D: complex(3, 1)}, impl.Two{A: complex(0, -2), B: complex(2, -7), C: complex(0, -1), D: complex(1, -3)}},
		{impl.Two{A: 1.5, B: 0.5, C: 1, D: 1}, impl.Two{A: 1.5, B: 1, C: 1, D: 1}},
		{impl.Two{A: 1, B: 2, C: 4, D: 3}, impl.Two{A: 0.25, B: -1.25, C: 0.25, D: 0.75}},
		{impl.Two{C: 2}, impl.Two{C: 0.5}},
	} {
		if got, ok := impl.OtherForm(c.m); !ok || got != c.want {
			t.Errorf("%v: got %v %v, want %v", c.m, got, ok, c.want)
		}
	}
}

func TestP8FormsThatAreNotThere(t *testing.T) {
	for _, zero := range zeros {
		for _, m := range []impl.Two{{A: 1, B: 2, D: 1}, {}, {A: 1, D: 1}, {A: greatest, B: greatest, D: 1e-30}} {
			m.C = zero
			got, ok := impl.OtherForm(m)
			expectNone(t, "with C being 0", got, ok)
		}
	}
	for _, m := range []impl.Two{
		{A: 1e30, C: 1e30, D: 1e30},                     // the product of A and D
		{B: 1e30, C: 1e30},                              // the product of B and C
		{A: greatest, B: -1, C: greatest, D: 1},         // the determinant
		{A: 1e30, C: 1e-30},                             // A divided by C
		{A: 1e10, C: 1e-20, D: 1e10},                    // the determinant divided by C
		{C: least},                                      // 1 divided by C
		{C: complex(0, 1e-30), D: complex(0, 1e30)},     // D divided by C
		{A: complex(1e30, 1), B: 1, C: 1e-10, D: 1e-30}, // one part of A divided by C
	} {
		got, ok := impl.OtherForm(m)
		expectNone(t, "a form with a number that is too great", got, ok)
	}
	for _, m := range brokenTwos() {
		got, ok := impl.OtherForm(m)
		expectNone(t, "of what is no matrix", got, ok)
	}
}

func TestP9TheInverseUndoes(t *testing.T) {
	for _, unit := range units {
		for _, m := range unitTwos(unit) {
			if d, ok := impl.Determinant(m); !ok || d != unit {
				t.Fatalf("%v has the determinant %v", m, d)
			}
			once, ok := impl.Inverse(m)
			twice, twiceOk := impl.Inverse(once)
			if !ok || !twiceOk || twice != m {
				t.Fatalf("%v: %v %v, twice %v %v", m, once, ok, twice, twiceOk)
			}
			if times(m, once) != (impl.Two{A: 1, D: 1}) {
				t.Fatalf("%v times %v: %v", m, once, times(m, once))
			}
		}
	}
}

func TestP9Inverses(t *testing.T) {
	for _, c := range []struct{ m, want impl.Two }{
		{impl.Two{A: 2, B: 1, C: 1, D: 1}, impl.Two{A: 1, B: -1, C: -1, D: 2}},
		{impl.Two{A: 4, D: 2}, impl.Two{A: 0.25, D: 0.5}},
		{impl.Two{B: 2, C: complex(0, 4)}, impl.Two{B: complex(0, -0.25), C: 0.5}},
		{impl.Two{A: 3, B: 1, C: 1, D: 1}, impl.Two{A: 0.5, B: -0.5, C: -0.5, D: 1.5}},
	} {
		if got, ok := impl.Inverse(c.m); !ok || got != c.want {
			t.Errorf("%v: got %v %v, want %v", c.m, got, ok, c.want)
		}
	}
}

func TestP9InversesThatAreNotThere(t *testing.T) {
	for _, m := range []impl.Two{
		{},
		{A: 2, B: 2, C: 1, D: 1},
		{A: complex(1, 1), B: complex(0, 2), C: 1, D: complex(1, 1)},
		{A: 1e-30, D: 1e-30},
		{A: complex(minus0, 0), D: 1},
	} {
		got, ok := impl.Inverse(m)
		expectNone(t, "with the determinant 0", got, ok)
	}
	for _, m := range []impl.Two{
		{A: 1e30, D: 1e30},
		{B: 1e30, C: 1e30},
		{A: greatest, B: -greatest, C: 1, D: 1},
		{A: 1e-40, D: 1e30},
		{A: complex(0, 1e30), D: 1e-40},
		{B: 1e30, C: 1e-40},
		{B: 1e-40, C: complex(0, -1e30)},
	} {
		got, ok := impl.Inverse(m)
		expectNone(t, "an inverse with a number that is too great", got, ok)
	}
	for _, m := range brokenTwos() {
		got, ok := impl.Inverse(m)
		expectNone(t, "of what is no matrix", got, ok)
	}
}

func TestP10BothWaysThroughAreAlike(t *testing.T) {
	references := []complex64{1, 50, complex(0, 1), complex(-3, 0.5), 0.1}
	told := 0
	for i, m := range unitTwos(1) {
		s, ok := impl.ScatteringOf(m, references[i%len(references)])
		if !ok {
			continue
		}
		told++
		if s.B != s.C {
			t.Fatalf("%v: %v", m, s)
		}
	}
	if told < 2900 {
		t.Error("told only", told)
	}
}

func TestP10TheChainIsThereAgain(t *testing.T) {
	list := wholeTwos(8)
	for _, m := range unitTwos(1) {
		if hasPartsUpTo(m, 8) {
			list = append(list, m)
		}
	}
	for _, m := range list {
		s, ok := impl.ScatteringOf(m, 1)
		if n := m.A + m.B + m.C + m.D; n == 0 {
			expectNone(t, "with n being 0", s, ok)
			continue
		}
		back, backOk := impl.ChainOf(s, 1)
		if !ok || !backOk || !impl.NearTwo(back, m, 0.05) {
			t.Fatalf("%v: %v %v, and back %v %v", m, s, ok, back, backOk)
		}
	}
}

func TestP10OtherReferences(t *testing.T) {
	for _, reference := range []complex64{2, 0.5, 50, complex(0, 1), complex(3, -4), complex(-0.25, 0.125)} {
		for _, m := range wholeTwos(8)[600:2000] {
			s, ok := impl.ScatteringOf(m, reference)
			if !ok {
				continue
			}
			if back, ok := impl.ChainOf(s, reference); !ok || !impl.NearTwo(back, m, 0.05) {
				t.Fatalf("%v at %v: %v, and back %v %v", m, reference, s, back, ok)
			}
		}
	}
}

func TestP10Scatterings(t *testing.T) {
	half := complex64(0.5)
	for _, c := range []struct {
		m         impl.Two
		reference complex64
		want      impl.Two
	}{
		{impl.Two{A: 1, B: 2, D: 1}, 1, impl.Two{A: half, B: half, C: half, D: half}},
		{impl.Two{A: 1, B: 100, D: 1}, 50, impl.Two{A: half, B: half, C: half, D: half}},
		{impl.Two{A: 1, C: 2, D: 1}, 1, impl.Two{A: -half, B: half, C: half, D: -half}},
		{impl.Two{A: 1, C: 0.5, D: 1}, 4, impl.Two{A: -half, B: half, C: half, D: -half}},
		{impl.Two{A: 2, D: 0.5}, 1, impl.Two{A: 0.6, B: 0.8, C: 0.8, D: -0.6}},
		{impl.Two{B: 1, C: 1}, 1, impl.Two{B: -1, C: 1}},
		{impl.Two{A: 3, D: 1}, 7, impl.Two{A: half, B: 1.5, C: half, D: -half}},
		{impl.Two{A: 2}, 1, impl.Two{A: 1, C: 1, D: -1}},
	} {
		got, ok := impl.ScatteringOf(c.m, c.reference)
		if !ok || !impl.NearTwo(got, c.want, 1e-6) {
			t.Errorf("%v at %v: got %v %v, want %v", c.m, c.reference, got, ok, c.want)
		}
	}
}

func TestP10ScatteringsThatAreNotThere(t *testing.T) {
	for _, m := range []impl.Two{{}, {A: 1, D: -1}, {B: 1, C: -1}, {A: 2, B: complex(-1, 1), C: complex(0, -1), D: -1}} {
		got, ok := impl.ScatteringOf(m, 1)
		expectNone(t, "with n being 0", got, ok)
	}
	got, ok := impl.ScatteringOf(impl.Two{A: 1, B: -8, C: 0.25}, 4)
	expectNone(t, "with n being 0 at 4", got, ok)
	got, ok = impl.ScatteringOf(impl.Two{A: 1, B: -8, C: 0.25}, 1)
	if !ok {
		t.Error("at 1 n is not 0", got, ok)
	}
	for _, c := range []struct {
		m         impl.Two
		reference complex64
	}{
		{impl.Two{A: 1e30, D: 1e30}, 1},
		{impl.Two{B: 1e30, C: 1e30}, 1},
		{impl.Two{A: greatest, B: -1, C: greatest, D: 1}, 1},    // the determinant
		{impl.Two{A: 1, B: 1e30, D: 1}, 1e-30},                  // b
		{impl.Two{A: 1, C: 1e30, D: 1}, 1e30},                   // c
		{impl.Two{A: greatest, B: greatest}, 1},                 // x
		{impl.Two{C: greatest, D: greatest}, 1},                 // y
		{impl.Two{A: greatest, C: greatest}, 1},                 // n
		{impl.Two{A: greatest, C: complex(-max32, 1)}, 1},       // the difference of x and y
		{impl.Two{A: 2e38, D: 1}, 1},                            // the determinant, twice
		{impl.Two{A: 1e-40}, 1},                                 // 2 divided by n
		{impl.Two{A: 1, B: -1, C: -1, D: complex(1, 1e-45)}, 1}, // nearly 0
	} {
		got, ok := impl.ScatteringOf(c.m, c.reference)
		expectNone(t, "a scattering with a number that is too great", got, ok)
	}
}

func TestP10InvalidMatricesAndReferences(t *testing.T) {
	good := impl.Two{A: 1, B: 2, C: 1, D: 1}
	for _, zero := range zeros {
		for _, m := range []impl.Two{good, {A: 1, D: 1}, {}} {
			got, ok := impl.ScatteringOf(m, zero)
			expectNone(t, "scattering at 0", got, ok)
			got, ok = impl.ChainOf(m, zero)
			expectNone(t, "chain at 0", got, ok)
		}
	}
	for _, broken := range brokenNumbers() {
		for _, m := range []impl.Two{good, {A: 1, D: 1}, {B: 1, C: 1}, {A: 0.5, B: 0.5, C: 0.5, D: 0.5}, {}} {
			got, ok := impl.ScatteringOf(m, broken)
			expectNone(t, "scattering at what is not finite", got, ok)
			got, ok = impl.ChainOf(m, broken)
			expectNone(t, "chain at what is not finite", got, ok)
		}
	}
	for _, m := range brokenTwos() {
		for _, reference := range []complex64{1, 50, complex(0, -1), 0} {
			got, ok := impl.ScatteringOf(m, reference)
			expectNone(t, "scattering of what is no matrix", got, ok)
			got, ok = impl.ChainOf(m, reference)
			expectNone(t, "chain of what is no matrix", got, ok)
		}
	}
}

func TestP11WhatScattersNothingIsAWire(t *testing.T) {
	nothing := impl.Two{B: 1, C: 1}
	wire := impl.Two{A: 1, D: 1}
	for _, reference := range finiteNumbers() {
		if reference == 0 {
			continue
		}
		if got, ok := impl.ChainOf(nothing, reference); !ok || got != wire {
			t.Errorf("at %v: %v %v", reference, got, ok)
		}
		if got, ok := impl.ScatteringOf(wire, reference); !ok || got != nothing {
			t.Errorf("a wire at %v: %v %v", reference, got, ok)
		}
	}
}

func TestP11Chains(t *testing.T) {
	half := complex64(0.5)
	for _, c := range []struct {
		s         impl.Two
		reference complex64
		want      impl.Two
	}{
		{impl.Two{A: half, B: half, C: half, D: half}, 1, impl.Two{A: 1, B: 2, D: 1}},
		{impl.Two{A: half, B: half, C: half, D: half}, 50, impl.Two{A: 1, B: 100, D: 1}},
		{impl.Two{A: -half, B: half, C: half, D: -half}, 4, impl.Two{A: 1, C: 0.5, D: 1}},
		{impl.Two{B: -1, C: 1}, 1, impl.Two{B: 1, C: 1}},
		{impl.Two{B: -1, C: 1}, complex(0, 2), impl.Two{B: complex(0, 2), C: complex(0, -0.5)}},
		{impl.Two{A: 1, C: 1, D: -1}, 1, impl.Two{A: 2}},
		{impl.Two{C: 2}, 1, impl.Two{A: 0.25, B: 0.25, C: 0.25, D: 0.25}},
	} {
		if got, ok := impl.ChainOf(c.s, c.reference); !ok || got != c.want {
			t.Errorf("%v at %v: got %v %v, want %v", c.s, c.reference, got, ok, c.want)
		}
	}
}

func TestP11ChainsThatAreNotThere(t *testing.T) {
	for _, zero := range zeros {
		for _, s := range []impl.Two{{A: 1}, {}, {A: 0.5, B: 0.5, D: 0.5}, {A: 1, B: 1, D: 1}} {
			s.C = zero
			got, ok := impl.ChainOf(s, 50)
			expectNone(t, "with C being 0", got, ok)
		}
	}
	for _, c := range []struct {
		s         impl.Two
		reference complex64
	}{
		{impl.Two{C: greatest}, 1},                              // t
		{impl.Two{B: 1e30, C: 1e30}, 1},                         // p
		{impl.Two{A: 1e30, C: 1, D: 1e30}, 1},                   // the products
		{impl.Two{A: 1, C: least}, 1},                           // a quotient
		{impl.Two{A: -1, C: complex(0, least32)}, 1},            // another one
		{impl.Two{C: 0.25}, complex(max32, 1)},                  // times the reference
		{impl.Two{C: 1}, least},                                 // divided by the reference
		{impl.Two{A: 1e20, B: 1, C: 1, D: 1}, complex(0, 1e20)}, // only B is too great
		{impl.Two{A: 1e20, B: 1, C: 1, D: -1}, 1e-20},           // only C is too great
	} {
		got, ok := impl.ChainOf(c.s, c.reference)
		expectNone(t, "a chain with a number that is too great", got, ok)
	}
}

func TestP56FourFiniteNumbersAreAMatrix(t *testing.T) {
	if !impl.TwoOk(noTwo) || !impl.TwoOk(impl.Two{A: complex(max32, -max32), B: complex(minus0, least32), C: -1, D: complex(0, 2)}) {
		t.Error("these are matrices")
	}
	for _, m := range wholeTwos(1000) {
		if !impl.TwoOk(m) {
			t.Fatal(m)
		}
	}
	for _, m := range brokenTwos() {
		if impl.TwoOk(m) {
			t.Error(m)
		}
	}
	for _, m := range mixedTwos() {
		if impl.TwoOk(m) != impl.TwoOk(rowsExchanged(m)) {
			t.Error(m)
		}
	}
}

func TestP57NearMatricesAreNearInEachNumber(t *testing.T) {
	for _, m := range []impl.Two{noTwo, {A: 1, B: 2, C: 3, D: 4}, {A: complex(max32, 1), B: -0.5, C: complex(0, -7), D: least}} {
		for place := range 4 {
			for _, off := range []complex64{0.25, -0.25, complex(0, 0.25), complex(0, -0.25)} {
				n := m
				at := []*complex64{&n.A, &n.B, &n.C, &n.D}[place]
				before := *at
				*at = before + off
				for _, bound := range []float64{0, 0.2, math.Nextafter(0.25, 0), 0.25, 0.3, math.Inf(1)} {
					want := impl.Near(*at, before, bound)
					if got := impl.NearTwo(m, n, bound); got != want || impl.NearTwo(n, m, bound) != got {
						t.Errorf("%v and %v with %v: %v", m, n, bound, got)
					}
				}
			}
		}
	}
}

func TestP57NearnessOfMatricesGoesBothWays(t *testing.T) {
	bounds := []float64{0, math.Copysign(0, -1), 0.05, 1, 1e30, 1e300, math.Inf(1), -1e-300, -1, math.Inf(-1), math.NaN()}
	list := append(mixedTwos()[:300], brokenTwos()...)
	for i, a := range list {
		for _, b := range []impl.Two{a, list[(i+1)%len(list)], list[(7*i+3)%len(list)]} {
			for _, bound := range bounds {
				want := impl.Near(a.A, b.A, bound) && impl.Near(a.B, b.B, bound) && impl.Near(a.C, b.C, bound) && impl.Near(a.D, b.D, bound)
				if got := impl.NearTwo(a, b, bound); got != want || impl.NearTwo(b, a, bound) != got {
					t.Fatalf("%v and %v with %v: %v", a, b, bound, got)
				}
			}
		}
	}
}

func TestP57EdgesOfNearTwo(t *testing.T) {
	m := impl.Two{A: 1, B: complex(2, -2), C: 3, D: complex(0, 4)}
	for _, bound := range []float64{0, math.Copysign(0, -1), 1, math.Inf(1)} {
		if !impl.NearTwo(m, m, bound) || !impl.NearTwo(noTwo, impl.Two{A: zeros[1], B: zeros[2], C: zeros[3]}, bound) {
			t.Error("the same is near with", bound)
		}
	}
	for _, bound := range []float64{math.NaN(), -1e-300, -1, math.Inf(-1)} {
		if impl.NearTwo(m, m, bound) || impl.NearTwo(m, noTwo, bound) {
			t.Error("nothing is near with", bound)
		}
	}
	for _, broken := range brokenTwos() {
		if impl.NearTwo(broken, broken, 1) || impl.NearTwo(m, broken, math.Inf(1)) || impl.NearTwo(broken, m, math.Inf(1)) {
			t.Error("near nothing is", broken)
		}
	}
}
