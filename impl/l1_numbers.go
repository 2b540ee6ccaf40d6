package impl

import "math"

// MaxMilli is the greatest number of thousandths of a part.
const MaxMilli = 9999999

// Finite reports whether neither part of a number is infinite or NaN: whether the difference of each part and itself is 0.
func Finite(z complex64) bool {
	re, im := real(z), imag(z)
	return float32(re-re) == 0 && float32(im-im) == 0
}

// Milli returns the number whose parts are so many thousandths, each from -MaxMilli on and at most MaxMilli: complex64 of the complex128 whose parts are both numbers, as float64, divided by 1000; 0 for others.
func Milli(re int, im int) complex64 {
	if !isMilli(re) || !isMilli(im) {
		return 0
	}
	return complex64(complex(float64(float64(re)/1000), float64(float64(im)/1000)))
}

// MilliOf returns how many thousandths both parts of a number are, each rounded, and true: the absolute value of the part, as float64, times 1000, and 0.5 more, without what is behind its point, and negative if the part is less than 0; 0, 0 and false if a number of thousandths is more than MaxMilli, or less than -MaxMilli, and if the number is not Finite.
func MilliOf(z complex64) (int, int, bool) {
	if !Finite(z) {
		return 0, 0, false
	}
	re, reOk := thousandths(real(z))
	im, imOk := thousandths(imag(z))
	if !reOk || !imOk {
		return 0, 0, false
	}
	return re, im, true
}

// Narrow returns complex64 of a complex128, and true; 0 and false if it is not Finite then.
func Narrow(z complex128) (complex64, bool) {
	return ifFinite(complex64(z))
}

// Quotient returns the first one of two numbers divided by the second one, as complex64, and true; 0 and false if one of both, or the quotient, is not Finite, or the second one is 0.
func Quotient(a complex64, b complex64) (complex64, bool) {
	if !Finite(a) || !Finite(b) || b == 0 {
		return 0, false
	}
	return ifFinite(complex64(a / b))
}

// Product returns the product of two numbers, as complex64, and true; 0 and false if one of both, or the product, is not Finite.
func Product(a complex64, b complex64) (complex64, bool) {
	if !Finite(a) || !Finite(b) {
		return 0, false
	}
	return ifFinite(complex64(a * b))
}

// Turned returns the number with the negative of its second part.
func Turned(z complex64) complex64 {
	return complex(real(z), -imag(z))
}

// Power returns the sum of the squares of both parts of a number that is Finite, each part and each square as float64; -1 for others.
func Power(z complex64) float64 {
	if !Finite(z) {
		return -1
	}
	re, im := float64(real(z)), float64(imag(z))
	// The conversions keep a machine that can from adding and multiplying in one operation.
	return float64(float64(re*re) + float64(im*im))
}

// Near reports whether two numbers are Finite, and the difference of both, as complex128, has no part whose absolute value is more than a bound; false for others, and for bounds that are NaN.
func Near(a complex64, b complex64, bound float64) bool {
	if !Finite(a) || !Finite(b) || math.IsNaN(bound) {
		return false
	}
	// A difference of two complex64 numbers may be too great for one; of them as complex128 it never is.
	d := complex128(a) - complex128(b)
	return math.Abs(real(d)) <= bound && math.Abs(imag(d)) <= bound
}

// isMilli reports whether n is a number of thousandths that a part may have.
func isMilli(n int) bool {
	return n >= -MaxMilli && n <= MaxMilli
}

// thousandths returns how many thousandths a finite part is, rounded away from 0 at halves, and whether a part may have so many.
func thousandths(part float32) (int, bool) {
	n := float64(float64(math.Abs(float64(part))*1000) + 0.5)
	// Compared before it is an int, as a great part would not fit into one.
	if n >= MaxMilli+1 {
		return 0, false
	}
	if part < 0 {
		return -int(n), true
	}
	return int(n), true
}

// absolute returns the absolute value of a part, without a sign of zero.
func absolute(part float32) float32 {
	return float32(math.Abs(float64(part)))
}

// ifFinite returns a number and true if it is Finite, 0 and false for others.
func ifFinite(z complex64) (complex64, bool) {
	if !Finite(z) {
		return 0, false
	}
	return z, true
}
