package tests

import (
	"math"
	"testing"

	"loop.example/twoports/impl"
)

var (
	inf32    = float32(math.Inf(1))
	nan32    = float32(math.NaN())
	minus0   = float32(math.Copysign(0, -1))
	max32    = float32(math.MaxFloat32)
	least32  = float32(math.SmallestNonzeroFloat32)
	aHalf    = float32(0.0625) // 62.5 thousandths, exactly
	underOne = math.Nextafter32(0.0005, 0)
)

// finiteParts are parts of both signs, from the least to the greatest.
func finiteParts() []float32 {
	list := []float32{0, minus0}
	for _, part := range []float32{least32, 1e-30, underOne, 0.0005, 0.001, aHalf, 0.1, 1.0 / 3, 0.5, 1, 1.5, 2, 3, 10, 99.999, 1000, 9999.999, 10000, 16777216, 1e18, 1e30, max32} {
		list = append(list, part, -part)
	}
	return list
}

func brokenParts() []float32 {
	return []float32{inf32, -inf32, nan32}
}

// pairs returns every number made of two of the parts.
func pairs(parts []float32) []complex64 {
	var list []complex64
	for _, re := range parts {
		for _, im := range parts {
			list = append(list, complex(re, im))
		}
	}
	return list
}

func finiteNumbers() []complex64 {
	return pairs(finiteParts())
}

// brokenNumbers returns numbers of which at least one part is infinite or NaN.
func brokenNumbers() []complex64 {
	list := pairs(brokenParts())
	for _, broken := range brokenParts() {
		for _, part := range []float32{0, minus0, 1, -2.5, max32} {
			list = append(list, complex(broken, part), complex(part, broken))
		}
	}
	return list
}

func allNumbers() []complex64 {
	return append(finiteNumbers(), brokenNumbers()...)
}

func wholeNumbers(parts ...float32) []complex64 {
	if len(parts) == 0 {
		parts = []float32{-1000, -999, -517, -100, -31, -7, -2, -1, 0, 1, 2, 3, 8, 64, 101, 730, 999, 1000}
	}
	return pairs(parts)
}

func samePart(a, b float32) bool {
	return math.Float32bits(a) == math.Float32bits(b) || a != a && b != b
}

// same compares by the parts and their signs of zero, as == does not.
func same(a, b complex64) bool {
	return samePart(real(a), real(b)) && samePart(imag(a), imag(b))
}

func exchanged(z complex64) complex64 {
	return complex(imag(z), real(z))
}

// thereIfFinite does without impl.Finite, which is tested itself.
func thereIfFinite(z complex64) (complex64, bool) {
	for _, part := range []float64{float64(real(z)), float64(imag(z))} {
		if math.IsNaN(part) || math.IsInf(part, 0) {
			return 0, false
		}
	}
	return z, true
}

// expect reports a number and a bool that are not the ones wanted; beside false the number must be 0.
func expect(t *testing.T, what string, got complex64, ok bool, want complex64, wantOk bool) {
	t.Helper()
	if ok != wantOk || !same(got, want) {
		t.Errorf("%s: got %v %v, want %v %v", what, got, ok, want, wantOk)
	}
}

func expectMilli(t *testing.T, z complex64, wantRe, wantIm int, wantOk bool) {
	t.Helper()
	re, im, ok := impl.MilliOf(z)
	if re != wantRe || im != wantIm || ok != wantOk {
		t.Errorf("MilliOf(%v): got %d %d %v, want %d %d %v", z, re, im, ok, wantRe, wantIm, wantOk)
	}
}
