package tests

import (
	"math"
	"testing"

	"loop.example/twoports/impl"
)

func TestMaxMilli(t *testing.T) {
	if impl.MaxMilli != 9999999 {
		t.Error(impl.MaxMilli)
	}
}

func TestP1ThousandthsAreThereAgain(t *testing.T) {
	for n := -impl.MaxMilli; n <= impl.MaxMilli; n++ {
		other := impl.MaxMilli - n/3*2
		if other > impl.MaxMilli {
			other = -other / 2
		}
		re, im, ok := impl.MilliOf(impl.Milli(n, other))
		if !ok || re != n || im != other {
			t.Fatalf("%d %d came back as %d %d %v", n, other, re, im, ok)
		}
	}
}

func TestP1EdgesOfMilli(t *testing.T) {
	const most = impl.MaxMilli
	for _, c := range []struct {
		re, im int
		want   complex64
	}{
		{0, 0, 0},
		{1, -1, complex(0.001, -0.001)},
		{1500, -250, complex(1.5, -0.25)},
		{-3, 100, complex(-0.003, 0.1)},
		{0, -7, complex(0, -0.007)},
		{most, -most, complex(9999.999, -9999.999)},
		{-most, most, complex(-9999.999, 9999.999)},
	} {
		if got := impl.Milli(c.re, c.im); !same(got, c.want) {
			t.Errorf("Milli(%d, %d): got %v, want %v", c.re, c.im, got, c.want)
		}
	}
	for _, beyond := range []int{most + 1, -most - 1, 2 * most, math.MaxInt, math.MinInt} {
		for _, other := range []int{0, 1, -5, most, -most, beyond} {
			if got := impl.Milli(beyond, other); !same(got, 0) {
				t.Errorf("Milli(%d, %d): got %v", beyond, other, got)
			}
			if got := impl.Milli(other, beyond); !same(got, 0) {
				t.Errorf("Milli(%d, %d): got %v", other, beyond, got)
			}
		}
	}
}

func TestP2RoundedOnceIsRounded(t *testing.T) {
	told := 0
	for _, z := range finiteNumbers() {
		re, im, ok := impl.MilliOf(z)
		if !ok {
			continue
		}
		told++
		rounded := impl.Milli(re, im)
		expectMilli(t, rounded, re, im, true)
		if !impl.Near(rounded, z, 0.0015) {
			t.Errorf("%v was rounded to %v", z, rounded)
		}
	}
	for n := -40000; n <= 40000; n++ {
		part := float32(n) / 16384 * 3
		re, im, ok := impl.MilliOf(complex(part, -part))
		if !ok || im != -re {
			t.Fatalf("MilliOf of %v and its negative: got %d %d %v", part, re, im, ok)
		}
		if off := math.Abs(float64(re) - float64(part)*1000); off > 0.5 {
			t.Fatalf("%v was rounded to %d thousandths", part, re)
		}
		expectMilli(t, impl.Milli(re, im), re, im, true)
	}
	if told == 0 {
		t.Error("nothing was rounded")
	}
}

func TestP2HalvesOfAThousandth(t *testing.T) {
	for _, c := range []struct {
		part float32
		want int
	}{
		{0, 0}, {minus0, 0}, {least32, 0}, {-least32, 0},
		{0.0005, 1}, {-0.0005, -1}, {underOne, 0}, {-underOne, 0},
		{0.0004, 0}, {-0.0006, -1}, {0.0015, 2},
		{0.0625, 63}, {-0.0625, -63}, {0.1875, 188}, {-0.1875, -188}, {0.3125, 313}, {-1.0625, -1063},
		{math.Nextafter32(0.0625, 0), 62}, {math.Nextafter32(-0.0625, 0), -62},
		{1000.0625, 1000063}, {-8191.9375, -8191938},
	} {
		expectMilli(t, complex(c.part, 2), c.want, 2000, true)
		expectMilli(t, complex(2, c.part), 2000, c.want, true)
	}
}

func TestP2TooManyThousandths(t *testing.T) {
	const most = impl.MaxMilli
	last := float32(9999.999)
	expectMilli(t, complex(last, -last), most, -most, true)
	beyond := math.Nextafter32(last, 20000)
	for _, part := range append(brokenParts(), beyond, 10000, 1e10, 1e30, max32) {
		expectMilli(t, complex(part, 1), 0, 0, false)
		expectMilli(t, complex(-part, 1), 0, 0, false)
		expectMilli(t, complex(1, part), 0, 0, false)
		expectMilli(t, complex(1, -part), 0, 0, false)
	}
	for _, z := range brokenNumbers() {
		expectMilli(t, z, 0, 0, false)
	}
}

func TestP3NarrowedTwiceIsNarrowedOnce(t *testing.T) {
	for _, z := range finiteNumbers() {
		got, ok := impl.Narrow(complex128(z))
		expect(t, "Narrow of a widened number", got, ok, z, true)
	}
	for _, re := range []float64{0.1, -1.0 / 3, 1e-40, 1e-60, 123456789.123, 3e38, 3.4028235e38, 1e39, 1e300, -1e39} {
		for _, im := range []float64{0, 0.7, -1e-50, 2e38, -1e39} {
			once, ok := impl.Narrow(complex(re, im))
			if fits := math.Abs(re) < 3.41e38 && math.Abs(im) < 3.41e38; ok != fits {
				t.Fatalf("Narrow(%v, %v): %v", re, im, ok)
			}
			if !ok {
				expect(t, "Narrow of what is too great", once, ok, 0, false)
				continue
			}
			if !impl.Finite(once) {
				t.Errorf("Narrow(%v, %v) is %v", re, im, once)
			}
			twice, ok := impl.Narrow(complex128(once))
			expect(t, "narrowed twice", twice, ok, once, true)
		}
	}
}

func TestP3EdgesOfNarrow(t *testing.T) {
	// Halfway between the greatest part and the next one, if there were one.
	edge := float64(max32) + math.Ldexp(1, 103)
	under := math.Nextafter(edge, 0)
	got, ok := impl.Narrow(complex(under, -under))
	expect(t, "just not too great", got, ok, complex(max32, -max32), true)
	for _, z := range []complex128{complex(edge, 0), complex(0, edge), complex(-edge, 1), complex(1, -edge), complex(1e300, 1e300)} {
		got, ok = impl.Narrow(z)
		expect(t, "too great", got, ok, 0, false)
	}
	for _, broken := range []float64{math.Inf(1), math.Inf(-1), math.NaN()} {
		for _, z := range []complex128{complex(broken, 1), complex(1, broken), complex(broken, broken)} {
			got, ok = impl.Narrow(z)
			expect(t, "not finite", got, ok, 0, false)
		}
	}
	got, ok = impl.Narrow(complex(1e-60, -1e-60))
	expect(t, "too little", got, ok, complex(0, minus0), true)
	got, ok = impl.Narrow(complex(0.1, -1.0/3))
	expect(t, "rounded", got, ok, complex(float32(0.1), -float32(1.0/3)), true)
}

func TestP4QuotientsTimesDivisorsAreNear(t *testing.T) {
	for _, z := range finiteNumbers() {
		got, ok := impl.Quotient(z, 1)
		if !ok || got != z {
			t.Errorf("%v by 1: %v %v", z, got, ok)
		}
	}
	divisors := append(wholeNumbers(), complex(16777216, -3), complex(-1, 1e20), complex(3e38, 3e38))
	for _, re := range []int{-100000, -33333, -1001, -1, 0, 1, 7, 500, 62500, 99999, 100000} {
		for _, im := range []int{-100000, -12345, 0, 3, 99999} {
			z := impl.Milli(re, im)
			for _, by := range divisors {
				if by == 0 {
					continue
				}
				q, ok := impl.Quotient(z, by)
				if !ok {
					t.Fatalf("%v by %v is not there", z, by)
				}
				if back, ok := impl.Product(q, by); !ok || !impl.Near(back, z, 0.002) {
					t.Fatalf("%v by %v, times it, is %v %v", z, by, back, ok)
				}
			}
		}
	}
}

func TestP4WholeQuotients(t *testing.T) {
	for _, c := range []struct{ a, b, want complex64 }{
		{complex(4, 2), complex(1, 1), complex(3, -1)},
		{complex(1, 0), complex(0, 1), complex(0, -1)},
		{complex(-6, 3), complex(-3, 0), complex(2, -1)},
		{complex(5, 5), complex(3, -1), complex(1, 2)},
		{1, 3, complex(float32(1)/3, 0)},
		{0, complex(2, -7), 0},
		{complex(max32, max32), complex(max32, max32), 1},
		{complex(least32, 0), complex(least32, 0), 1},
	} {
		got, ok := impl.Quotient(c.a, c.b)
		if !ok || got != c.want {
			t.Errorf("%v by %v: got %v %v, want %v", c.a, c.b, got, ok, c.want)
		}
	}
	got, ok := impl.Quotient(1e-30, complex(-1e30, 0))
	expect(t, "a quotient that is too little", got, ok, complex(minus0, minus0), true)
	got, ok = impl.Quotient(complex(minus0, 0), 1)
	expect(t, "of a 0 with a sign", got, ok, 0, true)
	got, ok = impl.Quotient(0, -1)
	expect(t, "of 0 by less than 0", got, ok, complex(minus0, minus0), true)
}

// The document defines both by Go's operators, down to the signs of zero.
func TestP4P5AreTheOperators(t *testing.T) {
	some := pairs([]float32{0, minus0, least32, 0.1, -0.7, 1, -3, 1e-30, 1e30, -max32})
	for _, a := range some {
		for _, b := range some {
			got, ok := impl.Product(a, b)
			want, wantOk := thereIfFinite(complex64(a * b))
			expect(t, "product", got, ok, want, wantOk)
			if b == 0 {
				continue
			}
			got, ok = impl.Quotient(a, b)
			want, wantOk = thereIfFinite(complex64(a / b))
			expect(t, "quotient", got, ok, want, wantOk)
		}
	}
}

func TestP4QuotientsThatAreNotThere(t *testing.T) {
	zeros := pairs([]float32{0, minus0})
	for _, a := range allNumbers() {
		for _, zero := range zeros {
			got, ok := impl.Quotient(a, zero)
			expect(t, "by 0", got, ok, 0, false)
		}
	}
	for _, broken := range brokenNumbers() {
		for _, z := range []complex64{0, 1, complex(-2, 3), complex(max32, 0), broken} {
			got, ok := impl.Quotient(broken, z)
			expect(t, "of what is not finite", got, ok, 0, false)
			got, ok = impl.Quotient(z, broken)
			expect(t, "by what is not finite", got, ok, 0, false)
		}
	}
	for _, c := range [][2]complex64{{1e30, 1e-30}, {complex(0, -1e30), 1e-30}, {complex(max32, max32), 0.5}, {1, complex(least32, least32)}} {
		got, ok := impl.Quotient(c[0], c[1])
		expect(t, "too great a quotient", got, ok, 0, false)
	}
}

// wholeProduct reckons in whole numbers.
func wholeProduct(a, b complex64) complex64 {
	ar, ai, br, bi := int(real(a)), int(imag(a)), int(real(b)), int(imag(b))
	return complex(float32(ar*br-ai*bi), float32(ar*bi+ai*br))
}

func TestP5WholeProductsAreExact(t *testing.T) {
	for _, a := range wholeNumbers() {
		for _, b := range wholeNumbers() {
			got, ok := impl.Product(a, b)
			if !ok || got != wholeProduct(a, b) {
				t.Fatalf("%v times %v: got %v %v", a, b, got, ok)
			}
			other, ok := impl.Product(b, a)
			expect(t, "exchanged", other, ok, got, true)
		}
	}
}

func TestP5EdgesOfProduct(t *testing.T) {
	got, ok := impl.Product(-1, 0)
	expect(t, "-1 times 0", got, ok, complex(minus0, 0), true)
	got, ok = impl.Product(complex(1, 2), complex(0.5, -0.25))
	expect(t, "of quarters", got, ok, complex(1, 0.75), true)
	got, ok = impl.Product(1e-30, 1e-30)
	expect(t, "too little", got, ok, 0, true)
	got, ok = impl.Product(complex(max32, -max32), 1)
	expect(t, "the greatest", got, ok, complex(max32, -max32), true)
	for _, c := range [][2]complex64{{1e30, 1e30}, {complex(0, 1e20), complex(0, 1e20)}, {complex(max32, 1), 2}, {complex(max32, max32), complex(1, 1)}} {
		got, ok = impl.Product(c[0], c[1])
		expect(t, "too great a product", got, ok, 0, false)
	}
	for _, broken := range brokenNumbers() {
		for _, z := range []complex64{0, 1, complex(-2, 3), broken} {
			got, ok = impl.Product(broken, z)
			expect(t, "of what is not finite", got, ok, 0, false)
			got, ok = impl.Product(z, broken)
			expect(t, "with what is not finite", got, ok, 0, false)
		}
	}
}

func TestP6PowersAreNoLessThan0(t *testing.T) {
	for _, z := range finiteNumbers() {
		if p := impl.Power(z); !(p >= 0) || math.IsInf(p, 0) {
			t.Errorf("Power(%v): %v", z, p)
		}
	}
	for _, z := range brokenNumbers() {
		if p := impl.Power(z); p != -1 {
			t.Errorf("Power(%v): %v", z, p)
		}
	}
	for _, z := range wholeNumbers() {
		p, ok := impl.Product(z, impl.Turned(z))
		if !ok || imag(p) != 0 || float64(real(p)) != impl.Power(z) {
			t.Fatalf("%v times the turned one is %v, its power %v", z, p, impl.Power(z))
		}
	}
}

func TestP6PowersAreOfDoublePrecision(t *testing.T) {
	tenth := float64(float32(0.1))
	for _, c := range []struct {
		z    complex64
		want float64
	}{
		{complex(3, 4), 25},
		{complex(minus0, 0), 0},
		{complex(-0.5, 0.25), 0.3125},
		{complex(0.1, 0), tenth * tenth},
		{complex(4097, 1), 4097*4097 + 1},
		{complex(max32, 0), float64(max32) * float64(max32)},
		{complex(0, least32), float64(least32) * float64(least32)},
	} {
		if got := impl.Power(c.z); got != c.want {
			t.Errorf("Power(%v): got %v, want %v", c.z, got, c.want)
		}
	}
}

func TestP53NumbersAreFiniteOrNot(t *testing.T) {
	for _, z := range finiteNumbers() {
		if !impl.Finite(z) || z+0 != z {
			t.Errorf("%v is finite", z)
		}
	}
	for _, z := range brokenNumbers() {
		if impl.Finite(z) {
			t.Errorf("%v is not finite", z)
		}
	}
	for _, z := range allNumbers() {
		if impl.Finite(z) != impl.Finite(exchanged(z)) {
			t.Errorf("%v and exchanged differ", z)
		}
	}
}

func TestP53SumsThatBecomeTooGreat(t *testing.T) {
	great := complex(max32, -max32)
	if impl.Finite(great+great) || impl.Finite(great-complex(0, max32)) || !impl.Finite(great-great) {
		t.Error("sums and differences")
	}
}

func TestP54TurnedTwiceItIsAsBefore(t *testing.T) {
	for _, z := range allNumbers() {
		turned := impl.Turned(z)
		if !same(turned, complex(real(z), -imag(z))) {
			t.Errorf("Turned(%v): %v", z, turned)
		}
		if !same(impl.Turned(turned), z) {
			t.Errorf("%v turned twice is %v", z, impl.Turned(turned))
		}
		if impl.Power(turned) != impl.Power(z) {
			t.Errorf("%v: the power is %v, turned %v", z, impl.Power(z), impl.Power(turned))
		}
	}
	if !same(impl.Turned(complex(1, 2)), complex(1, -2)) || !same(impl.Turned(0), complex(0, minus0)) || !same(impl.Turned(complex(minus0, minus0)), complex(minus0, 0)) {
		t.Error("signs")
	}
	if !same(impl.Turned(complex(nan32, inf32)), complex(nan32, -inf32)) {
		t.Error("parts that are not finite are turned, too")
	}
}

func TestP55NearnessGoesBothWays(t *testing.T) {
	bounds := []float64{0, math.Copysign(0, -1), 0.0005, 0.5, 1, 1e10, 1e30, 6e38, 1e300, math.Inf(1), -1e-300, -1, math.Inf(-1), math.NaN()}
	numbers := append(brokenNumbers(), pairs([]float32{0, minus0, 1, -1.5, 0.0005, 1e10, max32, -max32})...)
	for _, a := range numbers {
		for _, b := range numbers {
			for _, bound := range bounds {
				if impl.Near(a, b, bound) != impl.Near(b, a, bound) {
					t.Fatalf("%v and %v with %v", a, b, bound)
				}
			}
		}
	}
	for _, z := range finiteNumbers() {
		if !impl.Near(z, z, 0) || !impl.Near(z, z, 1) {
			t.Errorf("%v is near itself", z)
		}
	}
}

func TestP55EdgesOfNear(t *testing.T) {
	for _, c := range []struct {
		a, b  complex64
		bound float64
		want  bool
	}{
		{1, 1.25, 0.25, true},
		{1, 1.25, math.Nextafter(0.25, 0), false},
		{complex(0, 1), complex(0, 1.25), 0.25, true},
		{complex(0, 1), complex(0, 1.25), 0.2, false},
		{complex(1, 1), complex(1.25, 0.75), 0.25, true},
		{0, complex(3, 4), 4, true},
		{0, complex(3, -4), 3.9, false},
		{0, complex(minus0, minus0), 0, true},
		{1, 1, math.Copysign(0, -1), true},
		{1, 1, -1e-300, false},
		{1, 1, math.Inf(-1), false},
		{1, 1, math.NaN(), false},
		{1, -1e30, math.Inf(1), true},
		{complex(max32, 0), complex(-max32, 0), 6.9e38, true},
		{complex(max32, 0), complex(-max32, 0), 6.7e38, false},
		{1, 1e-10, 0.99999999995, true},
		{1, 1e-10, 0.9999999998, false},
	} {
		if got := impl.Near(c.a, c.b, c.bound); got != c.want {
			t.Errorf("Near(%v, %v, %v): %v", c.a, c.b, c.bound, got)
		}
	}
	for _, broken := range brokenNumbers() {
		for _, bound := range []float64{0, 1, math.Inf(1)} {
			if impl.Near(broken, broken, bound) || impl.Near(1, broken, bound) || impl.Near(broken, 1, bound) {
				t.Errorf("%v is near nothing", broken)
			}
		}
	}
}
