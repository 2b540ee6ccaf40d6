package tests

import (
	"math"
	"testing"

	"loop.example/twoports/impl"
)

// quarterTwos returns matrices whose numbers are quarters.
func quarterTwos() []impl.Two {
	numbers := quarters(2)
	list := cornerTwos(2)
	r := chance()
	for range 30000 {
		pick := func() complex64 { return numbers[r.Intn(len(numbers))] }
		list = append(list, impl.Two{A: pick(), B: pick(), C: pick(), D: pick()})
	}
	return list
}

// thousandthTwos returns matrices whose numbers are thousandths, from -2 on and at most 2.
func thousandthTwos() []impl.Two {
	var list []impl.Two
	r := chance()
	for range 30000 {
		milli := func() complex64 { return impl.Milli(r.Intn(4001)-2000, r.Intn(4001)-2000) }
		list = append(list, impl.Two{A: milli(), B: milli(), C: milli(), D: milli()})
	}
	return list
}

func scatterings() []impl.Two {
	return append(append(quarterTwos(), thousandthTwos()...), mixedTwos()...)
}

func exchangedPorts(t *testing.T, s impl.Two) impl.Two {
	t.Helper()
	x, ok := impl.ExchangedPorts(s)
	if !ok {
		t.Fatal("no exchanged ports of", s)
	}
	return x
}

func sameFloat(a, b float64) bool {
	return math.Float64bits(a) == math.Float64bits(b)
}

// expectFloat reports a float64 and a bool that are not the ones wanted; beside false the float64 must be 0.
func expectFloat(t *testing.T, what any, got float64, ok bool, want float64, wantOk bool) {
	t.Helper()
	if ok != wantOk || !sameFloat(got, want) {
		t.Errorf("%v: got %v %v, want %v %v", what, got, ok, want, wantOk)
	}
}

// floatIfFinite is how a float64 is told.
func floatIfFinite(x float64) (float64, bool) {
	if math.IsInf(x, 0) || math.IsNaN(x) {
		return 0, false
	}
	return x, true
}

// powerAsTold reckons the squares in float64.
func powerAsTold(z complex64) float64 {
	re, im := float64(real(z)), float64(imag(z))
	return float64(float64(re*re) + float64(im*im))
}

func TestP61ExchangedTwiceItIsAsBefore(t *testing.T) {
	for _, s := range scatterings() {
		once, ok := impl.ExchangedPorts(s)
		if !impl.TwoOk(s) {
			expectNone(t, "of no scattering", once, ok)
			continue
		}
		expectTwo(t, "exchanged once", once, ok, impl.Two{A: s.D, B: s.C, C: s.B, D: s.A}, true)
		twice, ok := impl.ExchangedPorts(once)
		expectTwo(t, "exchanged twice", twice, ok, s, true)
	}
}

func TestP61ExchangedPorts(t *testing.T) {
	for _, c := range []struct{ s, want impl.Two }{
		{impl.Two{A: 1, B: 2, C: 3, D: 4}, impl.Two{A: 4, B: 3, C: 2, D: 1}},
		{impl.Two{A: 1}, impl.Two{D: 1}},
		{impl.Two{B: j}, impl.Two{C: j}},
		{impl.Two{C: greatest}, impl.Two{B: greatest}},
		{impl.Two{D: complex(minus0, -1)}, impl.Two{A: complex(minus0, -1)}},
		{noTwo, noTwo},
	} {
		got, ok := impl.ExchangedPorts(c.s)
		expectTwo(t, "exchanged ports", got, ok, c.want, true)
	}
	for _, broken := range brokenTwos() {
		got, ok := impl.ExchangedPorts(broken)
		expectNone(t, "of no scattering", got, ok)
	}
}

func TestP61WhatIsBehindIsSeenAtTheOtherPort(t *testing.T) {
	numbers := finiteNumbers()
	r := chance()
	told := 0
	for _, s := range scatterings() {
		if !impl.TwoOk(s) {
			continue
		}
		x := exchangedPorts(t, s)
		for _, g := range []complex64{0, -1, impl.Milli(r.Intn(2000)-1000, r.Intn(2000)-1000), numbers[r.Intn(len(numbers))]} {
			got, ok := impl.ThroughOf(x, g)
			w := &way{}
			want, wantOk := w.number(w.plus(s.D, w.by(w.times(w.times(s.C, s.B), g), w.less(1, w.times(s.A, g)))))
			expect(t, "seen at the other port", got, ok, want, wantOk)
			if ok {
				told++
			}
		}
	}
	if told < 200000 {
		t.Error("told only", told)
	}
}

// The scattering of a chain with its ends exchanged has its ports exchanged.
func TestP61ATurnedChainHasExchangedPorts(t *testing.T) {
	r := chance()
	for range 5000 {
		m := chain(t, series(t, complex(float32(r.Intn(4)), float32(r.Intn(7)-3))), part(t, impl.ShuntPart, complex(float32(r.Intn(4)), float32(r.Intn(7)-3))))
		turned, ok := impl.TurnedChain(m)
		s, sOk := impl.ScatteringOf(m, 1)
		other, otherOk := impl.ScatteringOf(turned, 1)
		if !ok || !sOk || !otherOk {
			t.Fatalf("%v: %v %v %v", m, ok, sOk, otherOk)
		}
		if x := exchangedPorts(t, s); !impl.NearTwo(x, other, 0.0001) {
			t.Fatalf("%v: %v, want %v", m, x, other)
		}
	}
}

func TestP34StabilityDoesNotHangOnTheSide(t *testing.T) {
	told := 0
	for _, s := range quarterTwos() {
		got, ok := impl.StabilityOf(s)
		if ok != (s.B != 0 && s.C != 0) {
			t.Fatalf("%v: %v %v", s, got, ok)
		}
		other, otherOk := impl.StabilityOf(exchangedPorts(t, s))
		expectFloat(t, s, other, otherOk, got, ok)
		if ok {
			told++
		}
	}
	if told < 25000 {
		t.Error("told only", told)
	}
}

func TestP34HalvesWithoutReflections(t *testing.T) {
	for _, a := range zeros {
		for _, d := range zeros {
			got, ok := impl.StabilityOf(impl.Two{A: a, B: 0.5, C: 0.5, D: d})
			expectFloat(t, "halves", got, ok, 2.125, true)
		}
	}
}

func TestP34Stabilities(t *testing.T) {
	for _, c := range []struct {
		s    impl.Two
		want float64
	}{
		{impl.Two{A: 0.5, B: 0.25, C: 2, D: 0.5}, 0.5625},
		{impl.Two{B: 1, C: 1}, 1},
		{impl.Two{B: 1, C: -1}, 1},
		{impl.Two{B: j, C: 1}, 1},
		{impl.Two{B: 2, C: 0.25}, 1.25},
		{impl.Two{B: complex(3, 4), C: 1}, 2.6},
		{impl.Two{A: 1, B: 1, C: 1}, 0.5},
		{impl.Two{B: 1, C: 1, D: 1}, 0.5},
		{impl.Two{B: 1, C: 1, D: complex(1, -1)}, 0},
		{impl.Two{A: 2, B: 1, C: 1}, -1},
		{impl.Two{A: 1, B: 1, C: 1, D: 1}, -0.5}, // the determinant is 0
		{impl.Two{A: 1, B: 1, C: 1, D: -1}, 1.5},
		{impl.Two{A: j, B: 1, C: 1, D: 1}, 0.5}, // both parts of the determinant count
		{impl.Two{A: 2, B: 1, C: j, D: 2}, 5},
		{impl.Two{A: 0x1p60, B: 0.5, C: 1}, -0x1p120}, // more than a float32 can be is no matter
		{impl.Two{B: 0x1p-100, C: 0x1p-49}, 0x1p148},  // nearly the least product
		{impl.Two{B: 0x1p60, C: 0x1p67}, 0x1p126},     // nearly the greatest one
		{impl.Two{A: 0x1p127, B: 0x1p-100, C: 0x1p-49}, -0x1p402},
	} {
		got, ok := impl.StabilityOf(c.s)
		expectFloat(t, c.s, got, ok, c.want, true)
	}
}

func TestP34TwoPortsThatLetNothingBack(t *testing.T) {
	for _, zero := range zeros {
		for _, rest := range finiteNumbers() {
			for _, s := range []impl.Two{{A: 0.5, B: zero, C: rest, D: 0.5}, {A: 0.5, B: rest, C: zero, D: 0.5}, {B: zero, C: rest}, {B: rest, C: zero}} {
				got, ok := impl.StabilityOf(s)
				expectFloat(t, s, got, ok, 0, false)
			}
		}
	}
	for _, s := range []impl.Two{
		{A: 0.5, B: 1e-30, C: 1e-30, D: 0.5},                   // the product becomes 0
		{B: complex(1e-30, -1e-30), C: complex(-1e-30, 1e-30)}, // in both parts
		{B: least, C: 0.5},
		{B: complex(0, -least32), C: 0.25},
		{A: 1, B: least, C: least}, // 0 by 0
	} {
		got, ok := impl.StabilityOf(s)
		expectFloat(t, s, got, ok, 0, false)
	}
	for _, s := range []impl.Two{{B: least, C: 1}, {B: 1, C: complex(0, -least32)}, {B: 1e-30, C: complex(1e-10, 1)}} {
		if got, ok := impl.StabilityOf(s); !ok || got < 1e29 {
			t.Errorf("%v lets nearly nothing back: %v %v", s, got, ok)
		}
	}
}

func TestP34StabilitiesThatAreNotTold(t *testing.T) {
	for _, s := range []impl.Two{
		{B: 1e30, C: 1e30}, // the product
		{B: 1e30, C: complex(0, -1e30)},
		{A: 1, B: complex(max32, max32), C: complex(1, 1), D: 1}, // one part of it
		{A: 1e30, B: 1, C: 1, D: 1e30},                           // the other one of the determinant
		{A: complex(0, 1e30), B: 1, C: 1, D: 1e30},
		{A: 2e38, B: -2e38, C: 1, D: 1}, // their difference
		{A: complex(0, 2e38), B: complex(0, -2e38), C: 1, D: 1},
	} {
		got, ok := impl.StabilityOf(s)
		expectFloat(t, s, got, ok, 0, false)
	}
	for _, broken := range brokenTwos() {
		got, ok := impl.StabilityOf(broken)
		expectFloat(t, broken, got, ok, 0, false)
	}
}

// Of the greatest powers and the least product the result is finite still.
func TestP34TheGreatestStabilities(t *testing.T) {
	most := complex(max32, max32)
	for _, s := range []impl.Two{{A: most, B: least, C: 1}, {B: 1, C: least, D: most}} {
		got, ok := impl.StabilityOf(s)
		want, wantOk := stabilityAsTold(s)
		expectFloat(t, s, got, ok, want, wantOk)
		if !ok || got > -1e121 {
			t.Errorf("%v: %v %v", s, got, ok)
		}
	}
}

// What is stable gives no more than it takes, whatever takes power at its other port.
func TestP34WhatIsStableGivesNothing(t *testing.T) {
	r := chance()
	stable := 0
	for _, s := range thousandthTwos() {
		s = impl.Two{A: s.A / 2, B: s.B / 4, C: s.C / 2, D: s.D / 2}
		determinant, determinantOk := impl.Determinant(s)
		stability, ok := impl.StabilityOf(s)
		if !determinantOk || !ok || stability < 1.0001 || impl.Power(determinant) > 1 {
			continue
		}
		stable++
		for range 10 {
			turn := impl.TurnOf(r.Intn(16))
			first, firstOk := impl.ThroughOf(s, turn)
			second, secondOk := impl.ThroughOf(exchangedPorts(t, s), turn)
			if !firstOk || !secondOk || impl.Power(first) > 1.00001 || impl.Power(second) > 1.00001 {
				t.Fatalf("%v with %v: %v %v and %v %v", s, turn, first, firstOk, second, secondOk)
			}
		}
	}
	if stable < 4000 {
		t.Error("stable only", stable)
	}
}

func stabilityAsTold(s impl.Two) (float64, bool) {
	w := &way{}
	determinant := w.determinant(s)
	product := w.times(s.B, s.C)
	if w.lost || product == 0 {
		return 0, false
	}
	over := float64(float64(1-float64(powerAsTold(s.A)+powerAsTold(s.D))) + powerAsTold(determinant))
	return floatIfFinite(float64(over / float64(2*math.Sqrt(powerAsTold(product)))))
}

func TestP34IsReckonedAsTold(t *testing.T) {
	told := 0
	for _, s := range scatterings() {
		got, ok := impl.StabilityOf(s)
		want, wantOk := stabilityAsTold(s)
		expectFloat(t, s, got, ok, want, wantOk)
		if ok {
			told++
		}
	}
	if told < 60000 {
		t.Error("told only", told)
	}
}
