package tests

import (
	"testing"

	"loop.example/twoports/impl"
)

var noErrors = impl.Errors{}

// errorless instruments leak nothing, reflect nothing again, and lose nothing.
func errorless() []impl.Errors {
	var list []impl.Errors
	for _, leak := range zeros {
		for _, again := range zeros {
			for _, second := range []float32{0, minus0} {
				list = append(list, impl.Errors{Leak: leak, Again: again, Lost: complex(1, second)})
			}
		}
	}
	return list
}

// brokenErrors returns errors of which one has a part that is infinite or NaN.
func brokenErrors() []impl.Errors {
	var list []impl.Errors
	for _, rest := range []impl.Errors{{Lost: 1}, {}, {Leak: 1, Again: 0.5, Lost: 2}, {Leak: greatest, Again: -1, Lost: greatest}} {
		for _, broken := range brokenNumbers() {
			leak, again, lost := rest, rest, rest
			leak.Leak, again.Again, lost.Lost = broken, broken, broken
			list = append(list, leak, again, lost)
		}
	}
	return list
}

// mixedNumbers are little and great ones, zeros of both signs and thousandths, such as break the reckoning at every place.
func mixedNumbers() []complex64 {
	return append(pairs([]float32{0, minus0, 1, -1, 0.1, -2.5, 1e-30, 1e15, -1e25, 3e38, least32}), brokenNumbers()...)
}

func measuredAsTold(e impl.Errors, g complex64) (complex64, bool) {
	w := &way{}
	for _, z := range []complex64{e.Leak, e.Again, e.Lost, g} {
		w.there(z)
	}
	return w.number(w.plus(e.Leak, w.by(w.times(e.Lost, g), w.less(1, w.times(e.Again, g)))))
}

func setRightAsTold(e impl.Errors, measured complex64) (complex64, bool) {
	w := &way{}
	for _, z := range []complex64{e.Leak, e.Again, e.Lost, measured} {
		w.there(z)
	}
	d := w.less(measured, e.Leak)
	return w.number(w.by(d, w.plus(e.Lost, w.times(e.Again, d))))
}

func TestP42WhatIsMeasuredIsSetRight(t *testing.T) {
	whole := pairs([]float32{-3, -2, -1, 0, 1, 2, 3})
	reflections := quarters(1)
	for _, lost := range whole {
		if lost == 0 {
			continue
		}
		for _, leak := range whole {
			for _, again := range quarters(0.25) {
				e := impl.Errors{Leak: leak, Again: again, Lost: lost}
				for _, g := range reflections {
					measured, ok := impl.MeasuredAs(e, g)
					right, rightOk := impl.SetRight(e, measured)
					if !ok || !rightOk || !impl.Near(right, g, 0.001) {
						t.Fatalf("%v of %v: measured %v %v, set right %v %v", e, g, measured, ok, right, rightOk)
					}
				}
			}
		}
	}
}

func TestP42OfNothingLeakIsMeasured(t *testing.T) {
	numbers := finiteNumbers()
	for i, leak := range numbers {
		for step := range 20 {
			e := impl.Errors{Leak: leak, Again: numbers[(i*7+step)%len(numbers)], Lost: numbers[(i*31+step)%len(numbers)]}
			for _, zero := range zeros {
				// By ==, as 0 may be added to -0.
				if got, ok := impl.MeasuredAs(e, zero); !ok || got != leak {
					t.Fatalf("%v of %v: got %v %v", e, zero, got, ok)
				}
			}
		}
	}
}

func TestP42WhatIsMeasured(t *testing.T) {
	for _, c := range []struct {
		e       impl.Errors
		g, want complex64
	}{
		{impl.Errors{Leak: 1, Again: 0.5, Lost: 2}, 1, 5},
		{impl.Errors{Leak: 1, Again: 0.5, Lost: 2}, -2, -1},
		{impl.Errors{Leak: 1, Again: 0.5, Lost: 2}, 0, 1},
		{impl.Errors{Leak: complex(3, -4), Lost: 2 * j}, complex(1, 1), complex(1, -2)},
		{impl.Errors{Again: 2, Lost: 1}, 1, -1},
		{impl.Errors{Again: j, Lost: 1}, 1, complex(0.5, 0.5)},
		{impl.Errors{Again: j, Lost: 1}, j, 0.5 * j},
		{impl.Errors{Leak: 10, Again: -3, Lost: 8}, 1, 12},
		{impl.Errors{Leak: 7, Again: 0.5}, 1, 7}, // all is lost
		{impl.Errors{}, complex(3, -4), 0},
		{impl.Errors{Leak: greatest, Lost: 1}, 1, greatest},
		{impl.Errors{Lost: greatest}, 1, greatest},
		{impl.Errors{Lost: greatest}, 0.5 * j, complex(0, max32/2)},
		{impl.Errors{Lost: 1, Again: least}, 1, 1},
	} {
		got, ok := impl.MeasuredAs(c.e, c.g)
		if !ok || got != c.want {
			t.Errorf("%v of %v: got %v %v, want %v", c.e, c.g, got, ok, c.want)
		}
	}
}

// An instrument whose Lost is 0 measures nothing but Leak, and what is set right of it is not told, or does not hang on the number.
func TestP42InstrumentsThatMeasureNothing(t *testing.T) {
	for _, again := range wholeNumbers(-2, -0.25, 0, 0.5) {
		for _, leak := range wholeNumbers(-7, 0, 3) {
			for _, lost := range zeros {
				e := impl.Errors{Leak: leak, Again: again, Lost: lost}
				for _, g := range wholeNumbers(-3, 0, 0.25, 5) {
					got, ok := impl.MeasuredAs(e, g)
					if wantOk := again*g != 1; ok != wantOk || ok && got != leak {
						t.Errorf("%v of %v: got %v %v", e, g, got, ok)
					}
				}
				got, ok := impl.SetRight(e, leak)
				expect(t, "of an instrument that measures nothing", got, ok, 0, false)
				got, ok = impl.SetRight(e, leak+1)
				if ok != (again != 0) || ok && !impl.Near(got*again, 1, 0.001) {
					t.Errorf("%v set right: got %v %v", e, got, ok)
				}
			}
		}
	}
}

func TestP42DividedByNothing(t *testing.T) {
	for _, c := range []struct{ again, g complex64 }{
		{1, 1}, {-1, -1}, {j, -j}, {-j, j}, {0.5, 2}, {2, 0.5}, {-0.25, -4},
		{complex(0.5, 0.5), complex(1, -1)}, {complex(-0.125, 0.125), complex(-4, -4)}, {0.5 * j, -2 * j},
	} {
		for _, rest := range []impl.Errors{{Lost: 1}, {Leak: 3}, {}, {Leak: complex(1, 2), Lost: j}, {Lost: 1e30}} {
			rest.Again = c.again
			got, ok := impl.MeasuredAs(rest, c.g)
			expect(t, "divided by 0", got, ok, 0, false)
			if _, ok := impl.MeasuredAs(rest, c.g/2); !ok {
				t.Errorf("%v of %v is not told", rest, c.g/2)
			}
		}
	}
	// What is divided by is not 0 while one part of it is not.
	for _, c := range []struct {
		e       impl.Errors
		g, want complex64
	}{
		{impl.Errors{Again: 1, Lost: 1}, complex(1, 1), complex(-1, 1)},
		{impl.Errors{Again: 1, Lost: 2}, 3, -3},
	} {
		got, ok := impl.MeasuredAs(c.e, c.g)
		if !ok || got != c.want {
			t.Errorf("%v of %v: got %v %v, want %v", c.e, c.g, got, ok, c.want)
		}
	}
}

func TestP42MeasuredWithANumberThatIsTooGreat(t *testing.T) {
	for _, c := range []struct {
		e impl.Errors
		g complex64
	}{
		{impl.Errors{Lost: 3e38}, 2},                                        // the product with Lost
		{impl.Errors{Lost: complex(3e38, -3e38)}, complex(1, 1)},            // its first part
		{impl.Errors{Lost: complex(3e38, 3e38)}, complex(1, 1)},             // its second part
		{impl.Errors{Again: 1e20, Lost: 1e-20}, 1e20},                       // the product with Again, though the quotient would be 0
		{impl.Errors{Leak: 1, Again: 1e20 * j}, 1e20},                       // its second part, of which nothing would be left
		{impl.Errors{Again: 1e30, Lost: 1e30}, 1e30},                        // both products, though the quotient would be -1
		{impl.Errors{Again: 0.5, Lost: 3e38}, complex(1.5, 0)},              // the product or the quotient
		{impl.Errors{Again: 0.5, Lost: 3e38}, 1},                            // the quotient
		{impl.Errors{Again: 0.5, Lost: 3e38 * j}, 1},                        // its second part
		{impl.Errors{Leak: 3e38, Lost: 3e38}, 1},                            // the sum
		{impl.Errors{Leak: complex(1, -3e38), Lost: complex(1, -3e38)}, 1},  // its second part
		{impl.Errors{Leak: -3e38, Again: 0.5, Lost: 3e38}, 1},               // the quotient, though with Leak it would not be
		{impl.Errors{Leak: -3e38, Again: -0.5, Lost: complex(-3e38, 0)}, 2}, // the product, though with Leak it would not be
	} {
		got, ok := impl.MeasuredAs(c.e, c.g)
		expect(t, "measured with a number that is too great", got, ok, 0, false)
	}
}

func TestP42WhatIsNotMeasured(t *testing.T) {
	for _, broken := range brokenNumbers() {
		for _, e := range append(errorless(), impl.Errors{}, impl.Errors{Leak: 1}, impl.Errors{Leak: 1, Again: 0.5, Lost: 2}, impl.Errors{Again: greatest, Lost: least}) {
			got, ok := impl.MeasuredAs(e, broken)
			expect(t, "of no reflection", got, ok, 0, false)
			got, ok = impl.SetRight(e, broken)
			expect(t, "no measured number", got, ok, 0, false)
		}
	}
	for _, e := range brokenErrors() {
		for _, g := range []complex64{0, complex(minus0, minus0), 1, -1, complex(0.5, -3), greatest, least} {
			got, ok := impl.MeasuredAs(e, g)
			expect(t, "measured with broken errors", got, ok, 0, false)
			got, ok = impl.SetRight(e, g)
			expect(t, "set right by broken errors", got, ok, 0, false)
		}
	}
}

func TestP42WhatIsSetRight(t *testing.T) {
	for _, c := range []struct {
		e              impl.Errors
		measured, want complex64
	}{
		{impl.Errors{Leak: 1, Again: 0.5, Lost: 2}, 5, 1},
		{impl.Errors{Leak: 1, Again: 0.5, Lost: 2}, 1, 0},
		{impl.Errors{Leak: 1, Again: 0.5, Lost: 2}, -1, -2},
		{impl.Errors{Leak: complex(3, -4), Lost: 2 * j}, complex(1, -2), complex(1, 1)},
		{impl.Errors{Again: j, Lost: 1}, complex(0.5, 0.5), 1},
		{impl.Errors{Leak: 10, Again: -3, Lost: 8}, 12, 1},
		{impl.Errors{Leak: 7, Again: 0.5}, 100, 2}, // all is lost, so what is seen would be reflected again and again
		{impl.Errors{Lost: least}, least, 1},
		{impl.Errors{Lost: greatest}, greatest, 1},
		{impl.Errors{Leak: greatest, Lost: 1}, greatest, 0},
	} {
		got, ok := impl.SetRight(c.e, c.measured)
		if !ok || got != c.want {
			t.Errorf("%v of %v: got %v %v, want %v", c.e, c.measured, got, ok, c.want)
		}
	}
}

// The sum of Lost, and the product of Again and the difference, may be 0 for one number alone.
func TestP42SetRightByNothing(t *testing.T) {
	for _, c := range []struct {
		e        impl.Errors
		measured complex64
	}{
		{impl.Errors{Again: 1, Lost: 1}, -1},
		{impl.Errors{Leak: 1, Again: 0.5, Lost: 2}, -3},
		{impl.Errors{Leak: -5, Again: -2, Lost: 1}, -4.5},
		{impl.Errors{Again: j, Lost: 1}, j},
		{impl.Errors{Leak: complex(1, 1), Again: complex(1, 1), Lost: 2}, 2 * j},
		{impl.Errors{}, 0},
		{impl.Errors{}, 5},
		{impl.Errors{Leak: 5}, 3},
		{impl.Errors{Leak: 5, Again: 3}, 5},
	} {
		got, ok := impl.SetRight(c.e, c.measured)
		expect(t, "set right by 0", got, ok, 0, false)
		if c.e.Lost == 0 {
			continue
		}
		for _, beside := range []complex64{0.25, -0.25, 0.25 * j, -0.25 * j} {
			if _, ok := impl.SetRight(c.e, c.measured+beside); !ok {
				t.Errorf("%v of %v is not told", c.e, c.measured+beside)
			}
		}
	}
}

func TestP42SetRightWithANumberThatIsTooGreat(t *testing.T) {
	for _, c := range []struct {
		e        impl.Errors
		measured complex64
	}{
		{impl.Errors{Leak: -3e38, Lost: 1}, 3e38},                                                              // the difference
		{impl.Errors{Leak: complex(0, 3e38), Lost: 1}, complex(1, -3e38)},                                      // its second part
		{impl.Errors{Leak: -3e38, Lost: greatest}, 3e38},                                                       // the difference, though the quotient would be near 2
		{impl.Errors{Again: 1e20, Lost: 1}, 1e20},                                                              // the product, though the quotient would be near 0
		{impl.Errors{Again: 1e20 * j, Lost: 1}, 1e20},                                                          // its second part
		{impl.Errors{Again: complex(3e38, -3e38), Lost: 1}, complex(1, 1)},                                     // its first part
		{impl.Errors{Again: 3, Lost: -3e38}, 2e38},                                                             // the product, though with Lost it would not be
		{impl.Errors{Again: 1, Lost: 3e38}, 3e38},                                                              // the sum, though the quotient would be 0.5
		{impl.Errors{Again: 1, Lost: complex(0, -3e38)}, complex(1, -3e38)},                                    // its second part
		{impl.Errors{Lost: 0.5}, 3e38},                                                                         // the quotient
		{impl.Errors{Lost: 0.5}, complex(1, -3e38)},                                                            // its second part
		{impl.Errors{Lost: least}, 1},                                                                          // the quotient again
		{impl.Errors{Leak: -greatest, Again: least, Lost: greatest}, greatest},                                 // the difference
		{impl.Errors{Leak: complex(0, -max32), Again: complex(least32, 0), Lost: greatest}, complex(0, max32)}, // the difference
	} {
		got, ok := impl.SetRight(c.e, c.measured)
		expect(t, "set right with a number that is too great", got, ok, 0, false)
	}
}

func TestP44WithoutErrorsNothingIsChanged(t *testing.T) {
	for _, e := range errorless() {
		for _, z := range finiteNumbers() {
			// By ==, as 0 may be added to -0.
			if got, ok := impl.SetRight(e, z); !ok || got != z {
				t.Fatalf("%v of %v: set right %v %v", e, z, got, ok)
			}
			if got, ok := impl.MeasuredAs(e, z); !ok || got != z {
				t.Fatalf("%v of %v: measured %v %v", e, z, got, ok)
			}
		}
	}
}

func TestP44WhatLeaksIsNothing(t *testing.T) {
	numbers := finiteNumbers()
	for i, leak := range numbers {
		for step := range 20 {
			e := impl.Errors{Leak: leak, Again: numbers[(i*7+step)%len(numbers)], Lost: numbers[(i*31+step)%len(numbers)]}
			if got, ok := impl.SetRight(e, leak); ok != (e.Lost != 0) || got != 0 {
				t.Fatalf("%v of %v: got %v %v", e, leak, got, ok)
			}
		}
	}
}

// What is measured and set right is reckoned by Go's operators in the order told, down to the signs of zero.
func TestP42P44AreReckonedAsTold(t *testing.T) {
	told := map[bool]int{}
	look := func(e impl.Errors, z complex64) {
		t.Helper()
		got, ok := impl.MeasuredAs(e, z)
		want, wantOk := measuredAsTold(e, z)
		expect(t, "MeasuredAs", got, ok, want, wantOk)
		told[wantOk]++
		got, ok = impl.SetRight(e, z)
		want, wantOk = setRightAsTold(e, z)
		expect(t, "SetRight", got, ok, want, wantOk)
		told[wantOk]++
	}
	r := chance()
	for _, numbers := range [][]complex64{mixedNumbers(), finiteNumbers(), wholeNumbers(-3, -1, -0.1, minus0, 0, 0.25, 2.5)} {
		for range 100000 {
			pick := func() complex64 { return numbers[r.Intn(len(numbers))] }
			look(impl.Errors{Leak: pick(), Again: pick(), Lost: pick()}, pick())
			if t.Failed() {
				return
			}
		}
	}
	for _, e := range append(errorless(), brokenErrors()...) {
		for _, z := range []complex64{0, complex(minus0, minus0), 1, complex(-0.1, 3), greatest, least} {
			look(e, z)
		}
	}
	if told[true] < 200000 || told[false] < 100000 {
		t.Error("told only", told)
	}
}
