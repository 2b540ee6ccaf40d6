package tests

import (
	"math"
	"testing"

	"loop.example/twoports/impl"
)

var noCircle = impl.Circle{}

// beyondMilli are numbers of thousandths that no part may have.
func beyondMilli() []int {
	const most = impl.MaxMilli
	return []int{most + 1, -most - 1, 2 * most, -2 * most, math.MaxInt32, math.MinInt32, math.MaxInt, math.MinInt}
}

func sameCircle(a, b impl.Circle) bool {
	return same(a.Middle, b.Middle) && samePart(a.Radius, b.Radius)
}

// expectCircle reports a circle and a bool that are not the ones wanted.
func expectCircle(t *testing.T, what string, got impl.Circle, ok bool, want impl.Circle, wantOk bool) {
	t.Helper()
	if ok != wantOk || !sameCircle(got, want) {
		t.Errorf("%s: got %v %v, want %v %v", what, got, ok, want, wantOk)
	}
}

func resistanceCircle(t *testing.T, milli int) impl.Circle {
	t.Helper()
	c, ok := impl.ResistanceCircle(milli)
	if !ok {
		t.Fatal("no circle of the resistance", milli)
	}
	return c
}

func reactanceCircle(t *testing.T, milli int) impl.Circle {
	t.Helper()
	c, ok := impl.ReactanceCircle(milli)
	if !ok {
		t.Fatal("no circle of the reactance", milli)
	}
	return c
}

// Single precision is reckoned here from the thousandths as float32, without Milli.
func resistanceAsTold(milli int) impl.Circle {
	resistance := float32(float32(milli) / 1000)
	n := float32(resistance + 1)
	return impl.Circle{Middle: complex(float32(resistance/n), 0), Radius: float32(1 / n)}
}

func reactanceAsTold(milli int) impl.Circle {
	n := float32(1 / float32(float32(milli)/1000))
	radius := n
	if n < 0 {
		radius = -n
	}
	return impl.Circle{Middle: complex(1, n), Radius: radius}
}

func TestP22CirclesTouchAt1(t *testing.T) {
	for milli := 0; milli <= impl.MaxMilli; milli++ {
		c, ok := impl.ResistanceCircle(milli)
		if !ok || !sameCircle(c, resistanceAsTold(milli)) {
			t.Fatalf("%d: %v %v, want %v", milli, c, ok, resistanceAsTold(milli))
		}
		if off, ok := impl.OffCircle(1, c); !ok || math.Abs(off) > 0.0001 || c.Radius > 1 || c.Radius <= 0 {
			t.Fatalf("%d: 1 is off %v by %v %v", milli, c, off, ok)
		}
	}
}

func TestP22GreaterResistancesAreFartherToTheRight(t *testing.T) {
	for milli := 0; milli <= 50000; milli++ {
		middle := real(resistanceCircle(t, milli).Middle)
		for _, more := range []int{1, 1000} {
			if next := real(resistanceCircle(t, milli+more).Middle); next < middle {
				t.Fatalf("%d and %d more: %v and %v", milli, more, middle, next)
			}
		}
	}
}

func TestP22CirclesOfResistances(t *testing.T) {
	for _, c := range []struct {
		milli          int
		middle, radius float32
	}{
		{0, 0, 1},
		{1000, 0.5, 0.5},
		{3000, 0.75, 0.25},
		{250, 0.2, 0.8},
		{7000, 0.875, 0.125},
	} {
		got, ok := impl.ResistanceCircle(c.milli)
		expectCircle(t, "of a resistance", got, ok, impl.Circle{Middle: complex(c.middle, 0), Radius: c.radius}, true)
	}
	// Double precision, rounded at the end, would lead to other bits.
	for _, c := range []struct {
		milli          int
		middle, radius uint32
	}{
		{1, 0x3a82f0e9, 0x3f7fbe87},
		{7, 0x3be3c813, 0x3f7e3870},
		{333, 0x3e7fced7, 0x3f400c4b},
		{12345, 0x3f6cd119, 0x3d997739},
		{1234567, 0x3f7fcaf5, 0x3a542a39},
		{impl.MaxMilli, 0x3f7ff972, 0x38d1b1ba},
	} {
		got, ok := impl.ResistanceCircle(c.milli)
		want := impl.Circle{Middle: complex(math.Float32frombits(c.middle), 0), Radius: math.Float32frombits(c.radius)}
		expectCircle(t, "of a resistance, bit by bit", got, ok, want, true)
	}
}

func TestP22ResistancesWithoutACircle(t *testing.T) {
	for _, milli := range append(beyondMilli(), -1, -2, -1000, -impl.MaxMilli) {
		got, ok := impl.ResistanceCircle(milli)
		expectCircle(t, "of no resistance", got, ok, noCircle, false)
	}
}

func TestP23ReactancesTurnRoundWithTheirSign(t *testing.T) {
	for milli := 1; milli <= impl.MaxMilli; milli++ {
		c, ok := impl.ReactanceCircle(milli)
		other, otherOk := impl.ReactanceCircle(-milli)
		if !ok || !otherOk || !same(other.Middle, impl.Turned(c.Middle)) || other.Radius != c.Radius {
			t.Fatalf("%d: %v %v, with the other sign %v %v", milli, c, ok, other, otherOk)
		}
		if !sameCircle(c, reactanceAsTold(milli)) || !sameCircle(other, reactanceAsTold(-milli)) {
			t.Fatalf("%d: %v, want %v", milli, c, reactanceAsTold(milli))
		}
		for _, circle := range []impl.Circle{c, other} {
			off, offOk := impl.OffCircle(1, circle)
			if d := 1 - circle.Middle; !offOk || off != 0 || real(d) != 0 || float32(math.Abs(float64(imag(d)))) != circle.Radius {
				t.Fatalf("%d: 1 is off %v by %v %v", milli, circle, off, offOk)
			}
		}
	}
}

func TestP23CirclesOfReactances(t *testing.T) {
	for _, c := range []struct {
		milli  int
		second float32
	}{
		{1000, 1}, {-1000, -1}, {500, 2}, {-500, -2}, {250, 4}, {-4000, -0.25}, {8000, 0.125},
		// Double precision, rounded at the end, would lead to other bits for some of these.
		{1, math.Float32frombits(0x4479ffff)},
		{-3, math.Float32frombits(0xc3a6aaab)},
		{7, math.Float32frombits(0x430edb6d)},
		{333, math.Float32frombits(0x40403133)},
		{-12345, math.Float32frombits(0xbda5e5aa)},
		{impl.MaxMilli, math.Float32frombits(0x38d1b719)},
		{-impl.MaxMilli, math.Float32frombits(0xb8d1b719)},
	} {
		got, ok := impl.ReactanceCircle(c.milli)
		want := impl.Circle{Middle: complex(1, c.second), Radius: float32(math.Abs(float64(c.second)))}
		expectCircle(t, "of a reactance", got, ok, want, true)
	}
}

func TestP23ReflectionsLieOnTheCircleOfTheReactance(t *testing.T) {
	for _, x := range []int{-50000, -3000, -1000, -500, 250, 1000, 1234, 50000} {
		c := reactanceCircle(t, x)
		for re := 0; re <= 50000; re += 997 {
			g := reflection(t, impl.Milli(re, x))
			if off, ok := impl.OffCircle(g, c); !ok || math.Abs(off) > 0.0001 {
				t.Fatalf("%d and %d thousandths: %v is off %v by %v %v", re, x, g, c, off, ok)
			}
		}
	}
}

func TestP23ReactancesWithoutACircle(t *testing.T) {
	for _, milli := range append(beyondMilli(), 0) {
		got, ok := impl.ReactanceCircle(milli)
		expectCircle(t, "of no reactance", got, ok, noCircle, false)
	}
}

func TestP24TheMiddleIsOffByTheRadius(t *testing.T) {
	radii := append(finiteParts(), inf32, -inf32)
	for _, middle := range finiteNumbers() {
		for _, radius := range radii {
			off, ok := impl.OffCircle(middle, impl.Circle{Middle: middle, Radius: radius})
			if want := -float64(radius) * float64(radius); !ok || off != want {
				t.Fatalf("%v with %v: %v %v, want %v", middle, radius, off, ok, want)
			}
		}
	}
}

func TestP24OffTheCircle(t *testing.T) {
	tenth := float64(float32(0.1))
	for _, c := range []struct {
		z, middle complex64
		radius    float32
		want      float64
	}{
		{0, 0.5, 0.5, 0},
		{1, 0.5, 0.5, 0},
		{complex(0.5, 0.5), 0.5, 0.5, 0},
		{complex(3, 4), 0, 5, 0},
		{complex(3, 4), 0, 4, 9},
		{complex(3, 4), 0, 6, -11},
		{complex(3, 4), 0, -6, -11}, // the square alone counts
		{complex(3, 4), complex(1, -1), 2, 25},
		{complex(1, -1), complex(3, 4), 2, 25},
		{7, 7, 0, 0},
		{2, 0, 0, 4},
		// All but the difference is of double precision.
		{0, 0, 0.1, -(tenth * tenth)},
		{0.1, 0, 0, tenth * tenth},
		{4097, 0, 1, 4097*4097 - 1},
		{greatest, 0, 0, float64(max32) * float64(max32)},
		{0, 0, max32, -(float64(max32) * float64(max32))},
		{greatest, 0, max32, 0},
		// The difference is a complex64.
		{16777216, -1, 16777216, 0},
		{complex(0, 16777216), complex(0, -1), 16777216, 0},
	} {
		off, ok := impl.OffCircle(c.z, impl.Circle{Middle: c.middle, Radius: c.radius})
		if !ok || off != c.want {
			t.Errorf("%v off %v with %v: got %v %v, want %v", c.z, c.middle, c.radius, off, ok, c.want)
		}
	}
}

func TestP24RadiiThatAreNotFinite(t *testing.T) {
	for _, z := range []complex64{0, 1, greatest} {
		for _, radius := range []float32{inf32, -inf32} {
			if off, ok := impl.OffCircle(z, impl.Circle{Middle: 0.5, Radius: radius}); !ok || !math.IsInf(off, -1) {
				t.Errorf("%v with %v: %v %v", z, radius, off, ok)
			}
		}
		if off, ok := impl.OffCircle(z, impl.Circle{Middle: 0.5, Radius: nan32}); !ok || !math.IsNaN(off) {
			t.Errorf("%v: %v %v", z, off, ok)
		}
	}
}

func TestP24WhatIsNotOffACircle(t *testing.T) {
	none := func(what string, z, middle complex64) {
		t.Helper()
		for _, radius := range append(brokenParts(), 0, 1, -2.5, max32) {
			if off, ok := impl.OffCircle(z, impl.Circle{Middle: middle, Radius: radius}); ok || off != 0 {
				t.Errorf("%s: %v off %v with %v: %v %v", what, z, middle, radius, off, ok)
			}
		}
	}
	for _, broken := range brokenNumbers() {
		for _, z := range append(finiteNumbers()[:40], brokenNumbers()...) {
			none("no number", broken, z)
			none("no middle", z, broken)
		}
	}
	none("too great a difference", greatest, -greatest)
	none("too great a difference", complex(0, -max32), complex(0, 3e38))
	none("too great a difference", complex(1, 3e38), complex(1, -3e38))
}
