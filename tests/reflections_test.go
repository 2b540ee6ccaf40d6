package tests

import (
	"math"
	"testing"

	"loop.example/twoports/impl"
)

const j = complex64(1i)

// reflection wants the reflection at the reference 1 to be told.
func reflection(t *testing.T, z complex64) complex64 {
	t.Helper()
	g, ok := impl.ReflectionOf(z, 1)
	if !ok {
		t.Fatal("no reflection of", z)
	}
	return g
}

// takers returns impedances with a resistance of at least 0, and parts of at most 50 in absolute value.
func takers() []complex64 {
	var list []complex64
	for _, re := range []float32{0, minus0, least32, 1e-30, 0.0005, 0.001, 0.1, 1.0 / 3, 0.5, 1, 1.001, 2, 10, 33.333, 49.999, 50} {
		for _, im := range []float32{0, minus0, least32, 1e-30, 0.001, 0.25, 1.0 / 3, 1, 3, 17.5, 49.999, 50} {
			list = append(list, complex(re, im), complex(re, -im))
		}
	}
	r := chance()
	for range 20000 {
		list = append(list, complex(r.Float32()*50, r.Float32()*100-50))
	}
	return list
}

func TestP19WhatTakesPowerIsWithinTheCircle(t *testing.T) {
	for _, z := range takers() {
		if p := impl.Power(reflection(t, z)); p > 1.00001 {
			t.Errorf("%v reflects the power %v", z, p)
		}
	}
	for _, z := range []complex64{-0.5, -3, complex(-0.001, 1), complex(-20, -20)} {
		if p := impl.Power(reflection(t, z)); p <= 1 {
			t.Errorf("%v gives power and reflects %v", z, p)
		}
	}
}

func TestP19ReflectionsLieOnTheCircleOfTheResistance(t *testing.T) {
	for milli := 0; milli <= 50000; milli += 1 + milli/40 {
		c, ok := impl.ResistanceCircle(milli)
		if !ok {
			t.Fatal("no circle of", milli)
		}
		for x := -50000; x <= 50000; x += 1249 {
			g := reflection(t, impl.Milli(milli, x))
			if off, ok := impl.OffCircle(g, c); !ok || math.Abs(off) > 0.0001 {
				t.Fatalf("%d and %d thousandths: %v is off %v by %v %v", milli, x, g, c, off, ok)
			}
		}
	}
}

func TestP19Reflections(t *testing.T) {
	for _, c := range []struct{ z, reference, want complex64 }{
		{3, 1, 0.5},
		{150, 50, 0.5},
		{1, 3, -0.5},
		{j, 1, j},
		{-j, 1, -j},
		{complex(1, 2), 1, complex(0.5, 0.5)},
		{complex(-1, 1), 1, complex(1, 2)}, // the sum is not 0, though its first part is
		{complex(5, -1), 1, complex(0.67567567, -0.054054055)},
		{50, 50, 0},
		{complex(3, -4), complex(3, -4), 0},
		{0, 50, -1},
		{7, 0, 1},
		{-3, 1, 2},
		{1, j, -j},
		{greatest, 1, 1},
		{1, greatest, -1},
	} {
		if got, ok := impl.ReflectionOf(c.z, c.reference); !ok || !impl.Near(got, c.want, 1e-7) {
			t.Errorf("%v at %v: got %v %v, want %v", c.z, c.reference, got, ok, c.want)
		}
	}
}

func TestP19TheNegativeOfTheReference(t *testing.T) {
	for _, reference := range finiteNumbers() {
		got, ok := impl.ReflectionOf(-reference, reference)
		expect(t, "the negative of the reference", got, ok, 0, false)
	}
	for _, zero := range zeros {
		for _, other := range zeros {
			got, ok := impl.ReflectionOf(zero, other)
			expect(t, "0 at 0", got, ok, 0, false)
		}
	}
	beside := math.Nextafter32(-50, 0)
	if got, ok := impl.ReflectionOf(complex(beside, 0), 50); !ok || real(got) > -1e7 {
		t.Error("beside the negative of the reference:", got, ok)
	}
	if got, ok := impl.ReflectionOf(complex(-50, least32), complex(50, 1)); !ok || got != complex(-1, 100) {
		t.Error("beside it in the second part:", got, ok)
	}
}

func TestP19ReflectionsThatAreNotTold(t *testing.T) {
	for _, c := range []struct{ z, reference complex64 }{
		{greatest, complex(-max32, 1)},         // the difference
		{complex(0, max32), complex(1, -3e38)}, // its second part
		{greatest, greatest},                   // the sum
		{complex(1, max32), complex(1, 3e38)},  // its second part
		{complex(1, 1e-40), -1},                // the quotient
		{complex(-1e30, 1e-20), 1e30},          // the quotient again
	} {
		got, ok := impl.ReflectionOf(c.z, c.reference)
		expect(t, "a reflection with a number that is too great", got, ok, 0, false)
	}
	for _, broken := range brokenNumbers() {
		for _, z := range append(finiteNumbers(), broken) {
			got, ok := impl.ReflectionOf(broken, z)
			expect(t, "of no impedance", got, ok, 0, false)
			got, ok = impl.ReflectionOf(z, broken)
			expect(t, "at no reference", got, ok, 0, false)
		}
	}
}

func TestP20ReflectionsTellImpedances(t *testing.T) {
	var list []complex64
	for _, z := range takers() {
		list = append(list, reflection(t, z))
	}
	r := chance()
	for range 20000 {
		list = append(list, complex(r.Float32()*2-1, r.Float32()*2-1))
	}
	told := 0
	for _, g := range append(list, finiteNumbers()...) {
		z, ok := impl.ImpedanceAt(g, 1)
		if !ok || real(z) < 0 || !impl.Near(z, 0, 50) {
			continue
		}
		told++
		if back, ok := impl.ReflectionOf(z, 1); !ok || !impl.Near(back, g, 0.001) {
			t.Fatalf("%v leads to %v, and this to %v %v", g, z, back, ok)
		}
	}
	if told < 30000 {
		t.Error("told only", told)
	}
}

func TestP20ImpedancesAreThereAgain(t *testing.T) {
	for _, reference := range []complex64{1, 50, 0.5, complex(3, -4), j} {
		for _, x := range takers() {
			z := complex64(x * reference)
			g, ok := impl.ReflectionOf(z, reference)
			if !ok || g == 1 {
				t.Fatalf("%v at %v: %v %v", z, reference, g, ok)
			}
			if back, ok := impl.ImpedanceAt(g, reference); !ok || !impl.Near(back, z, 0.05) {
				t.Fatalf("%v at %v leads to %v, and this to %v %v", z, reference, g, back, ok)
			}
		}
	}
}

func TestP20Impedances(t *testing.T) {
	for _, c := range []struct{ g, reference, want complex64 }{
		{0.5, 50, 150},
		{0.5, 1, 3},
		{-0.5, 3, 1},
		{j, 1, j},
		{-j, 50, -50 * j},
		{complex(0.5, 0.5), 1, complex(1, 2)},
		{complex(0.5, 0.5), complex(0, 2), complex(-4, 2)},
		{0, complex(3, -4), complex(3, -4)},
		{-1, 50, 0},
		{3, 1, -2},
		{0.5, 0, 0},
		{complex(1, 1), 1, complex(-1, 2)}, // the first part alone is 1
		{complex(1, -2), 50, complex(-50, -50)},
		{greatest, 1, -1},
		{j, complex(max32, max32), complex(-max32, max32)},
		{complex(math.Nextafter32(1, 0), 0), 1, 0x1p25},
	} {
		if got, ok := impl.ImpedanceAt(c.g, c.reference); !ok || got != c.want {
			t.Errorf("%v at %v: got %v %v, want %v", c.g, c.reference, got, ok, c.want)
		}
	}
}

func TestP20ReflectionsWithoutAnImpedance(t *testing.T) {
	for _, reference := range finiteNumbers() {
		for _, one := range []complex64{1, complex(1, minus0)} {
			got, ok := impl.ImpedanceAt(one, reference)
			expect(t, "a reflection of 1", got, ok, 0, false)
		}
	}
	for _, c := range []struct{ g, reference complex64 }{
		{complex(1, least32), 1},                   // the quotient
		{complex(1, -1e-39), 1e-30},                // the quotient, though the product would be small
		{complex(1, 1e-30), 1e10},                  // the product
		{0.5, greatest},                            // its first part
		{0.5, complex(0, -max32)},                  // its second part
		{complex(0.2, 0.4), complex(max32, max32)}, // a sum in it
	} {
		got, ok := impl.ImpedanceAt(c.g, c.reference)
		expect(t, "an impedance with a number that is too great", got, ok, 0, false)
	}
	for _, broken := range brokenNumbers() {
		for _, z := range append(finiteNumbers(), broken) {
			got, ok := impl.ImpedanceAt(broken, z)
			expect(t, "of no reflection", got, ok, 0, false)
			got, ok = impl.ImpedanceAt(z, broken)
			expect(t, "at no reference", got, ok, 0, false)
		}
	}
}

func TestP21BehindNothingThereIsWhatIsSeen(t *testing.T) {
	told := 0
	for _, s := range append(wholeTwos(1000), mixedTwos()...) {
		_, bothOk := impl.Product(s.B, s.C)
		for _, nothing := range zeros {
			got, ok := impl.ThroughOf(s, nothing)
			if ok != (bothOk && impl.TwoOk(s)) {
				t.Fatalf("%v: %v", s, ok)
			}
			if ok {
				told++
				if got != s.A {
					t.Fatalf("%v: %v", s, got)
				}
			}
		}
	}
	if told < 100000 {
		t.Error("told only", told)
	}
}

func TestP21NothingComesBackOneWay(t *testing.T) {
	numbers := finiteNumbers()
	r := chance()
	told := 0
	for i, s := range append(wholeTwos(1000), mixedTwos()...) {
		g := numbers[r.Intn(len(numbers))]
		if i%2 == 0 {
			s.B = zeros[i/2%len(zeros)]
		} else {
			s.C = zeros[i/2%len(zeros)]
		}
		if got, ok := impl.ThroughOf(s, g); ok {
			told++
			if got != s.A {
				t.Fatalf("%v with %v: %v", s, g, got)
			}
		}
	}
	if told < 30000 {
		t.Error("told only", told)
	}
}

func TestP21WhatIsSeenThroughAScattering(t *testing.T) {
	for _, c := range []struct {
		s       impl.Two
		g, want complex64
	}{
		{impl.Two{A: 0.5, B: 0.5, C: 0.5, D: 0.5}, 1, 1},
		{impl.Two{B: 1, C: 1}, complex(0.25, -2), complex(0.25, -2)},
		{impl.Two{B: 2, C: j, D: 1}, -1, -j},
		{impl.Two{A: 1, B: 2, C: 3, D: 0.5}, 1, 13},
		{impl.Two{A: j, B: 3, C: 1, D: 0.25}, 2, complex(12, 1)},
		{impl.Two{A: 1, B: 1, C: 1, D: complex(1, 1)}, 1, complex(1, 1)}, // the first part alone of the divisor is 0
		{impl.Two{A: 7, B: 4, C: 2}, complex(0, -0.5), complex(7, -4)},
		{impl.Two{A: 1, B: 1, C: 1, D: greatest}, 1, 1},
		{impl.Two{A: -greatest, B: greatest, C: 1}, 1, 0},
	} {
		if got, ok := impl.ThroughOf(c.s, c.g); !ok || got != c.want {
			t.Errorf("%v with %v: got %v %v, want %v", c.s, c.g, got, ok, c.want)
		}
	}
}

// What a chain shows with something behind it reflects what is seen through the scattering of the chain.
func TestP21ChainsAndScatteringsShowTheSame(t *testing.T) {
	r := chance()
	for range 20000 {
		z := complex(float32(1+r.Intn(5)), float32(r.Intn(11)-5))
		m := chain(t, series(t, complex(float32(r.Intn(4)), float32(r.Intn(7)-3))), part(t, impl.ShuntPart, complex(float32(r.Intn(4)), float32(r.Intn(7)-3))))
		seen, seenOk := impl.SeenAt(m, z)
		s, ok := impl.ScatteringOf(m, 1)
		if !seenOk || !ok {
			t.Fatalf("%v with %v: %v %v", m, z, seenOk, ok)
		}
		if got, ok := impl.ThroughOf(s, reflection(t, z)); !ok || !impl.Near(got, reflection(t, seen), 0.001) {
			t.Fatalf("%v with %v: %v %v, want %v", m, z, got, ok, reflection(t, seen))
		}
	}
}

func TestP21DivisorsOf0(t *testing.T) {
	for _, c := range []struct {
		s impl.Two
		g complex64
	}{
		{impl.Two{A: 1, B: 1, C: 1, D: 1}, 1},
		{impl.Two{A: 1, B: 1, C: 1, D: 2}, 0.5},
		{impl.Two{A: 1, B: 1, C: 1, D: complex(0, 2)}, complex(0, -0.5)},
		{impl.Two{A: 1, B: 1, C: 1, D: complex(0.5, 0.5)}, complex(1, -1)},
		{impl.Two{A: 1, C: 1, D: 1}, 1},
		{impl.Two{A: 1, B: 1, D: -1}, -1},
		{impl.Two{D: 4}, 0.25},
	} {
		got, ok := impl.ThroughOf(c.s, c.g)
		expect(t, "with the divisor 0", got, ok, 0, false)
	}
}

func TestP21WhatIsNotSeen(t *testing.T) {
	for _, c := range []struct {
		s impl.Two
		g complex64
	}{
		{impl.Two{A: 1, B: 1e30, C: 1e30}, 0},                                        // the product of B and C
		{impl.Two{A: 1, B: 1e30, C: complex(0, 1e30)}, 1e-30},                        // it, though the next one would be small
		{impl.Two{A: 1, B: 1e15, C: 1e15}, 1e15},                                     // the next one
		{impl.Two{A: 1, D: 1e30}, 1e30},                                              // the product of D and the reflection
		{impl.Two{A: 1, B: 1, C: 1, D: complex(0, 1e30)}, 1e30},                      // it, by which a quotient would be small
		{impl.Two{A: 1, B: 1e18, C: 1e18, D: complex(math.Nextafter32(1, 0), 0)}, 1}, // the quotient
		{impl.Two{A: greatest, B: greatest, C: 1}, 1},                                // the sum
		{impl.Two{A: complex(0, -max32), B: complex(0, -max32), C: 1}, 1},            // its second part
	} {
		got, ok := impl.ThroughOf(c.s, c.g)
		expect(t, "with a number that is too great", got, ok, 0, false)
	}
	for _, broken := range brokenTwos() {
		for _, g := range []complex64{0, 1, complex(-2.5, 1e30)} {
			got, ok := impl.ThroughOf(broken, g)
			expect(t, "of no scattering", got, ok, 0, false)
		}
	}
	for _, g := range brokenNumbers() {
		for _, s := range []impl.Two{{}, {A: 1}, {B: 1, C: 1}, {D: 1}, {A: 0.5, B: 0.5, C: 0.5, D: 0.5}} {
			got, ok := impl.ThroughOf(s, g)
			expect(t, "with no reflection", got, ok, 0, false)
		}
	}
}

func reflectionAsTold(z, reference complex64) (complex64, bool) {
	w := &way{}
	w.there(z)
	w.there(reference)
	return w.number(w.by(w.less(z, reference), w.plus(z, reference)))
}

func impedanceAsTold(g, reference complex64) (complex64, bool) {
	w := &way{}
	w.there(g)
	w.there(reference)
	return w.number(w.times(reference, w.by(w.plus(1, g), w.less(1, g))))
}

func throughAsTold(s impl.Two, g complex64) (complex64, bool) {
	w := &way{}
	w.matrix(s)
	w.there(g)
	return w.number(w.plus(s.A, w.by(w.times(w.times(s.B, s.C), g), w.less(1, w.times(s.D, g)))))
}

// Reflections are reckoned by Go's operators in the order told, down to the signs of zero.
func TestP19P20AreReckonedAsTold(t *testing.T) {
	some := append(pairs([]float32{0, minus0, least32, 0.1, -0.7, 1, -1, -3, 50, 1e-30, 1e30, max32, -max32}), takers()[:100]...)
	told := 0
	for _, z := range append(some, brokenNumbers()...) {
		for _, reference := range append(some, brokenNumbers()...) {
			got, ok := impl.ReflectionOf(z, reference)
			want, wantOk := reflectionAsTold(z, reference)
			expect(t, "ReflectionOf", got, ok, want, wantOk)
			back, backOk := impl.ImpedanceAt(z, reference)
			want, wantOk = impedanceAsTold(z, reference)
			expect(t, "ImpedanceAt", back, backOk, want, wantOk)
			if ok && backOk {
				told++
			}
		}
	}
	if told < 40000 {
		t.Error("told only", told)
	}
}

func TestP21IsReckonedAsTold(t *testing.T) {
	numbers := allNumbers()
	list := append(wholeTwos(3), mixedTwos()...)
	r := chance()
	for range 20000 {
		milli := func() complex64 { return impl.Milli(r.Intn(4000)-2000, r.Intn(4000)-2000) }
		list = append(list, impl.Two{A: milli(), B: milli(), C: milli(), D: milli()})
	}
	told := 0
	for _, s := range list {
		for _, g := range []complex64{1, impl.Milli(r.Intn(2000)-1000, r.Intn(2000)-1000), numbers[r.Intn(len(numbers))]} {
			got, ok := impl.ThroughOf(s, g)
			want, wantOk := throughAsTold(s, g)
			expect(t, "ThroughOf", got, ok, want, wantOk)
			if ok {
				told++
			}
		}
	}
	if told < 100000 {
		t.Error("told only", told)
	}
}
