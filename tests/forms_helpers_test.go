package tests

import (
	"math/rand"
	"testing"

	"loop.example/twoports/impl"
)

var (
	units    = []complex64{1, -1, complex(0, 1), complex(0, -1)}
	zeros    = pairs([]float32{0, minus0})
	noTwo    = impl.Two{}
	greatest = complex(max32, 0)
	least    = complex(least32, 0)
)

// chance returns numbers that are the same in every run.
func chance() *rand.Rand {
	return rand.New(rand.NewSource(58))
}

// wholeNumber has parts from -most on and at most most.
func wholeNumber(r *rand.Rand, most int) complex64 {
	return complex(float32(r.Intn(2*most+1)-most), float32(r.Intn(2*most+1)-most))
}

func wholeTwo(r *rand.Rand, most int) impl.Two {
	return impl.Two{A: wholeNumber(r, most), B: wholeNumber(r, most), C: wholeNumber(r, most), D: wholeNumber(r, most)}
}

// cornerTwos returns all matrices of numbers with a few whole parts: 0, 1 and the greatest ones.
func cornerTwos(most float32) []impl.Two {
	numbers := []complex64{0, 1, complex(0, -1), complex(most, -most), complex(-most, -most)}
	var list []impl.Two
	for _, a := range numbers {
		for _, b := range numbers {
			for _, c := range numbers {
				for _, d := range numbers {
					list = append(list, impl.Two{A: a, B: b, C: c, D: d})
				}
			}
		}
	}
	return list
}

// wholeTwos returns the corners and many others.
func wholeTwos(most int) []impl.Two {
	list := cornerTwos(float32(most))
	r := chance()
	for range 20000 {
		list = append(list, wholeTwo(r, most))
	}
	return list
}

// times multiplies whole matrices in float64, where that is exact.
func times(m, n impl.Two) impl.Two {
	row := func(a, b, c, d complex64) complex64 {
		return complex64(complex128(a)*complex128(b) + complex128(c)*complex128(d))
	}
	return impl.Two{A: row(m.A, n.A, m.B, n.C), B: row(m.A, n.B, m.B, n.D), C: row(m.C, n.A, m.D, n.C), D: row(m.C, n.B, m.D, n.D)}
}

func hasPartsUpTo(m impl.Two, most float64) bool {
	return impl.NearTwo(m, noTwo, most)
}

// unitTwos returns matrices with whole parts of at most 100 in absolute value, whose determinant is unit.
func unitTwos(unit complex64) []impl.Two {
	list := []impl.Two{{A: unit, D: 1}, {A: 1, D: unit}, {B: -unit, C: 1}, {B: -1, C: unit}, {A: unit, B: complex(100, -100), D: 1}, {A: 1, C: complex(-100, 100), D: unit}}
	r := chance()
	for len(list) < 3000 {
		m := impl.Two{A: 1, B: wholeNumber(r, 4), D: 1}
		m = times(m, impl.Two{A: unit, C: wholeNumber(r, 4), D: 1})
		m = times(m, impl.Two{A: 1, B: wholeNumber(r, 4), D: 1})
		if hasPartsUpTo(m, 100) {
			list = append(list, m)
		}
	}
	return list
}

// brokenTwos returns matrices of which exactly one number has a part that is infinite or NaN.
func brokenTwos() []impl.Two {
	var list []impl.Two
	for _, rest := range []impl.Two{{A: 2, B: 1, C: 1, D: 1}, {}, {B: 1, C: 1}, {A: 1, D: 1}, {A: greatest, B: 1, C: complex(0, -1), D: complex(0.5, 3)}} {
		for _, broken := range brokenNumbers() {
			a, b, c, d := rest, rest, rest, rest
			a.A, b.B, c.C, d.D = broken, broken, broken, broken
			list = append(list, a, b, c, d)
		}
	}
	return list
}

// mixedTwos returns matrices of little and great numbers, zeros of both signs and thousandths, such as break the reckoning at every place.
func mixedTwos() []impl.Two {
	numbers := pairs([]float32{0, minus0, 1, -1, 0.1, -2.5, 1e-30, 1e15, -1e25, 3e38, least32})
	r := chance()
	var list []impl.Two
	for range 40000 {
		pick := func() complex64 { return numbers[r.Intn(len(numbers))] }
		list = append(list, impl.Two{A: pick(), B: pick(), C: pick(), D: pick()})
	}
	return append(list, brokenTwos()...)
}

// rowsExchanged exchanges both rows.
func rowsExchanged(m impl.Two) impl.Two {
	return impl.Two{A: m.C, B: m.D, C: m.A, D: m.B}
}

// sameTwo compares by the parts and their signs of zero, as == does not.
func sameTwo(a, b impl.Two) bool {
	return same(a.A, b.A) && same(a.B, b.B) && same(a.C, b.C) && same(a.D, b.D)
}

// expectTwo reports a matrix and a bool that are not the ones wanted.
func expectTwo(t *testing.T, what string, got impl.Two, ok bool, want impl.Two, wantOk bool) {
	t.Helper()
	if ok != wantOk || !sameTwo(got, want) {
		t.Errorf("%s: got %v %v, want %v %v", what, got, ok, want, wantOk)
	}
}

// expectNone reports a matrix that should not be there.
func expectNone(t *testing.T, what string, got impl.Two, ok bool) {
	t.Helper()
	expectTwo(t, what, got, ok, noTwo, false)
}

// quarters returns the numbers whose parts are quarters, from -most on and at most most.
func quarters(most float32) []complex64 {
	var parts []float32
	for part := -most; part <= most; part += 0.25 {
		parts = append(parts, part)
	}
	return pairs(parts)
}
