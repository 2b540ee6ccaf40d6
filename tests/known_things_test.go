package tests

import (
	"testing"

	"loop.example/twoports/impl"
)

// three are the measured numbers of the reflections 1, -1 and 0.
type three struct{ one, negative, none complex64 }

func (m three) errors() (impl.Errors, bool) {
	return impl.ErrorsFrom(m.one, m.negative, m.none)
}

func sameErrors(a, b impl.Errors) bool {
	return same(a.Leak, b.Leak) && same(a.Again, b.Again) && same(a.Lost, b.Lost)
}

// expectErrors reports the errors from three measured numbers if they are not the ones wanted, or not told as wanted.
func expectErrors(t *testing.T, m three, want impl.Errors, wantOk bool) {
	t.Helper()
	if got, ok := m.errors(); ok != wantOk || !sameErrors(got, want) {
		t.Errorf("%v: got %v %v, want %v %v", m, got, ok, want, wantOk)
	}
}

func errorsAsTold(m three) (impl.Errors, bool) {
	w := &way{}
	a := w.less(w.there(m.one), w.there(m.none))
	b := w.less(w.there(m.negative), m.none)
	again := w.by(w.plus(a, b), w.less(a, b))
	lost := w.times(a, w.less(1, again))
	if w.lost {
		return noErrors, false
	}
	return impl.Errors{Leak: m.none, Again: again, Lost: lost}, true
}

// room returns the least part, from -10 on, so that this part, with either difference added, is also from -10 on and at most 10; and whether there is one.
func room(a, b float32) (float32, bool) {
	low, high := min(0, a, b), max(0, a, b)
	return -10 - low, high-low <= 20
}

func expectKnownThings(t *testing.T, m three) {
	t.Helper()
	e, ok := m.errors()
	if !ok || e.Leak != m.none {
		t.Fatalf("%v: errors %v %v", m, e, ok)
	}
	one, oneOk := impl.SetRight(e, m.one)
	negative, negativeOk := impl.SetRight(e, m.negative)
	none, noneOk := impl.SetRight(e, m.none)
	if !oneOk || !negativeOk || !noneOk || !impl.Near(one, 1, 0.01) || !impl.Near(negative, -1, 0.01) || none != 0 {
		t.Fatalf("%v: %v, set right %v %v, %v %v and %v %v", m, e, one, oneOk, negative, negativeOk, none, noneOk)
	}
}

// Whole differences are exact, so with one third number for each two differences all of them are looked at.
func TestP43ThreeKnownThingsTellTheErrors(t *testing.T) {
	const most = 20
	looked := 0
	for ar := float32(-most); ar <= most; ar++ {
		for br := float32(-most); br <= most; br++ {
			re, ok := room(ar, br)
			if !ok {
				continue
			}
			for ai := float32(-most); ai <= most; ai++ {
				for bi := float32(-most); bi <= most; bi++ {
					im, ok := room(ai, bi)
					a, b := complex(ar, ai), complex(br, bi)
					if !ok || a == 0 || b == 0 || a == b {
						continue
					}
					none := complex(re, im)
					expectKnownThings(t, three{one: none + a, negative: none + b, none: none})
					looked++
				}
			}
		}
	}
	if looked < 900000 {
		t.Error("looked only at", looked)
	}
}

func TestP43AnyThreeMeasuredNumbers(t *testing.T) {
	r := chance()
	for range 200000 {
		m := three{one: wholeNumber(r, 10), negative: wholeNumber(r, 10), none: wholeNumber(r, 10)}
		if m.one != m.none && m.negative != m.none && m.one != m.negative {
			expectKnownThings(t, m)
		}
	}
}

func TestP43Errors(t *testing.T) {
	for _, c := range []struct {
		m    three
		want impl.Errors
	}{
		{three{1, -1, 0}, impl.Errors{Lost: 1}}, // without errors
		{three{4, -2, 1}, impl.Errors{Leak: 1, Lost: 3}},
		{three{3, -1, 0}, impl.Errors{Again: 0.5, Lost: 1.5}},
		{three{8, 4, 5}, impl.Errors{Leak: 5, Again: 0.5, Lost: 1.5}},
		{three{-1, 3, 0}, impl.Errors{Again: -0.5, Lost: -1.5}},
		{three{3, 1, 0}, impl.Errors{Again: 2, Lost: -3}},
		{three{j, -j, 0}, impl.Errors{Lost: j}},
		{three{1, -j, 0}, impl.Errors{Again: -j, Lost: complex(1, 1)}},
		{three{complex(3, 3), complex(2, 1), complex(2, 2)}, impl.Errors{Leak: complex(2, 2), Again: complex(0.2, -0.4), Lost: complex(0.4, 1.2)}},
		{three{3e38 * j, -3e38, 0}, impl.Errors{Again: j, Lost: complex(3e38, 3e38)}},
		{three{greatest, 0, greatest}, impl.Errors{Leak: greatest, Again: -1}},
		{three{least, -least, 0}, impl.Errors{Lost: least}},
	} {
		got, ok := c.m.errors()
		if !ok || got.Leak != c.want.Leak || !impl.Near(got.Again, c.want.Again, 1e-6) || !impl.Near(got.Lost, c.want.Lost, 1e-6) {
			t.Errorf("%v: got %v %v, want %v", c.m, got, ok, c.want)
		}
	}
}

// The errors are those of the instrument, near them.
func TestP43ErrorsOfAnInstrumentAreFound(t *testing.T) {
	for _, e := range instruments() {
		var m three
		var oneOk, negativeOk, noneOk bool
		m.one, oneOk = impl.MeasuredAs(e, 1)
		m.negative, negativeOk = impl.MeasuredAs(e, -1)
		m.none, noneOk = impl.MeasuredAs(e, 0)
		got, ok := m.errors()
		if !oneOk || !negativeOk || !noneOk || !ok {
			t.Fatalf("%v: measured %v, errors %v %v", e, m, got, ok)
		}
		if got.Leak != e.Leak || !impl.Near(got.Again, e.Again, 0.001) || !impl.Near(got.Lost, e.Lost, 0.001) {
			t.Fatalf("%v: measured %v, errors %v", e, m, got)
		}
	}
}

// instruments have whole parts of Leak and Lost, and quarters as parts of Again; and they measure something.
func instruments() []impl.Errors {
	var list []impl.Errors
	for _, leak := range wholeNumbers(-3, -1, 0, 2) {
		for _, lost := range wholeNumbers(-3, -1, 0, 1, 2) {
			for _, again := range quarters(0.25) {
				if lost != 0 {
					list = append(list, impl.Errors{Leak: leak, Again: again, Lost: lost})
				}
			}
		}
	}
	return list
}

func TestP43ThingsThatAreMeasuredAsTheSame(t *testing.T) {
	numbers := append(wholeNumbers(-10, -1, 0, 3), zeros...)
	for _, both := range numbers {
		for _, none := range numbers {
			// 1 and -1 are measured as the same, and maybe 0, too.
			expectErrors(t, three{both, both, none}, noErrors, false)
			if both == none {
				continue
			}
			// -1 is measured as 0: all that is reflected is reflected again, and all is lost.
			if e, ok := impl.ErrorsFrom(both, none, none); !ok || e.Leak != none || e.Again != 1 || e.Lost != 0 {
				t.Errorf("%v and twice %v: got %v %v", both, none, e, ok)
			}
			// 1 is measured as 0.
			if e, ok := impl.ErrorsFrom(none, both, none); !ok || e.Leak != none || e.Again != -1 || e.Lost != 0 {
				t.Errorf("%v, %v and the first one: got %v %v", none, both, e, ok)
			}
		}
	}
}

// Differences may be the same though the measured numbers are not.
func TestP43DifferencesThatAreTheSame(t *testing.T) {
	for _, m := range []three{
		{1e-10, 2e-10, 1},
		{-1e-10, 1e-10, 1},
		{complex(1e-10, 5), complex(-1e-10, 5), complex(1, 1)},
		{complex(5, 1e-10), complex(5, 0), complex(1, -1)},
		{1, -1, 1e20},
		{j, 7, greatest},
	} {
		expectErrors(t, m, noErrors, false)
		m.none = complex(1e-12, 0)
		if e, ok := m.errors(); !ok {
			t.Errorf("%v: got %v", m, e)
		}
	}
	// They are not the same while one part of them is not.
	for _, m := range []three{{complex(5, 1), 5, 0}, {complex(1, 5), complex(2, 5), 0}, {least, 2 * least, 0}} {
		if e, ok := m.errors(); !ok {
			t.Errorf("%v: got %v", m, e)
		}
	}
}

func TestP43ErrorsWithANumberThatIsTooGreat(t *testing.T) {
	for _, m := range []three{
		{3e38, -3e38, -3e38},                                // a
		{3e38, -3e38, 3e38},                                 // b
		{complex(0, 3e38), 0, complex(0, -3e38)},            // the second part of a
		{0, complex(0, -3e38), complex(0, 3e38)},            // the second part of b
		{3e38, 3e38, -3e38},                                 // both
		{3e38, 2e38, 0},                                     // the sum, and not the difference
		{complex(1, 3e38), complex(0, 2e38), 0},             // its second part
		{3e38, -3e38, 0},                                    // the difference, though the quotient would be 0
		{complex(0, -3e38), complex(0, 3e38), 0},            // its second part
		{3e38, complex(-1e38, 2e38), 0},                     // the difference, though the quotient would be little
		{complex(1, least32), 1, 0},                         // the quotient
		{1e25, complex(1e25, 1e10), 0},                      // Lost
		{1e36, 1.000001e36, 0},                              // Lost again
		{complex(0, 1e36), complex(0, 1.000001e36), 0},      // its second part
		{complex(1e35, 1e35), complex(1.00001e35, 1e35), 0}, // both of its parts
	} {
		expectErrors(t, m, noErrors, false)
	}
}

func TestP43ErrorsThatAreNotTold(t *testing.T) {
	for _, broken := range brokenNumbers() {
		for _, rest := range []three{{1, -1, 0}, {4, -2, 1}, {}, {complex(3, 3), complex(2, 1), complex(2, 2)}, {greatest, 0, greatest}, {1, 1, 1}} {
			one, negative, none := rest, rest, rest
			one.one, negative.negative, none.none = broken, broken, broken
			for _, m := range []three{one, negative, none, {broken, broken, rest.none}, {broken, rest.negative, broken}, {rest.one, broken, broken}, {broken, broken, broken}} {
				expectErrors(t, m, noErrors, false)
			}
		}
	}
}

// Errors are reckoned by Go's operators in the order told, down to the signs of zero.
func TestP43IsReckonedAsTold(t *testing.T) {
	told := map[bool]int{}
	r := chance()
	for _, numbers := range [][]complex64{mixedNumbers(), finiteNumbers(), wholeNumbers(-10, -3, -1, -0.1, minus0, 0, 0.25, 2.5)} {
		for range 100000 {
			pick := func() complex64 { return numbers[r.Intn(len(numbers))] }
			m := three{one: pick(), negative: pick(), none: pick()}
			want, wantOk := errorsAsTold(m)
			expectErrors(t, m, want, wantOk)
			told[wantOk]++
			if t.Failed() {
				return
			}
		}
	}
	if told[true] < 100000 || told[false] < 50000 {
		t.Error("told only", told)
	}
}
