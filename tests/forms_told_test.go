package tests

import (
	"testing"

	"loop.example/twoports/impl"
)

// way follows the formulas of the document operator by operator, and remembers whether a number on the way was not there.
type way struct {
	lost bool
}

func (w *way) there(z complex64) complex64 {
	if _, ok := thereIfFinite(z); !ok {
		w.lost = true
	}
	return z
}

func (w *way) plus(a, b complex64) complex64  { return w.there(complex64(a + b)) }
func (w *way) less(a, b complex64) complex64  { return w.there(complex64(a - b)) }
func (w *way) times(a, b complex64) complex64 { return w.there(complex64(a * b)) }

func (w *way) by(a, b complex64) complex64 {
	if b == 0 {
		w.lost = true
		return 0
	}
	return w.there(complex64(a / b))
}

func (w *way) matrix(m impl.Two) {
	w.there(m.A)
	w.there(m.B)
	w.there(m.C)
	w.there(m.D)
}

func (w *way) determinant(m impl.Two) complex64 {
	w.matrix(m)
	return w.less(w.times(m.A, m.D), w.times(m.B, m.C))
}

func (w *way) number(z complex64) (complex64, bool) {
	if w.lost {
		return 0, false
	}
	return z, true
}

func (w *way) end(m impl.Two) (impl.Two, bool) {
	if w.lost {
		return noTwo, false
	}
	return m, true
}

func otherFormAsTold(m impl.Two) (impl.Two, bool) {
	w := &way{}
	d := w.determinant(m)
	return w.end(impl.Two{A: w.by(m.A, m.C), B: w.by(d, m.C), C: w.by(1, m.C), D: w.by(m.D, m.C)})
}

func inverseAsTold(m impl.Two) (impl.Two, bool) {
	w := &way{}
	d := w.determinant(m)
	return w.end(impl.Two{A: w.by(m.D, d), B: w.by(-m.B, d), C: w.by(-m.C, d), D: w.by(m.A, d)})
}

func scatteringAsTold(m impl.Two, reference complex64) (impl.Two, bool) {
	w := &way{}
	det := w.determinant(m)
	b := w.by(m.B, w.there(reference))
	c := w.times(m.C, reference)
	x := w.plus(m.A, b)
	y := w.plus(c, m.D)
	n := w.plus(x, y)
	return w.end(impl.Two{
		A: w.by(w.less(x, y), n),
		B: w.by(w.plus(det, det), n),
		C: w.by(2, n),
		D: w.by(w.plus(w.less(b, m.A), w.less(m.D, c)), n),
	})
}

func chainAsTold(s impl.Two, reference complex64) (impl.Two, bool) {
	w := &way{}
	w.matrix(s)
	w.there(reference)
	t := w.plus(s.C, s.C)
	p := w.times(s.B, s.C)
	e, f, g, h := w.plus(1, s.A), w.less(1, s.A), w.plus(1, s.D), w.less(1, s.D)
	return w.end(impl.Two{
		A: w.by(w.plus(w.times(e, h), p), t),
		B: w.times(reference, w.by(w.less(w.times(e, g), p), t)),
		C: w.by(w.by(w.less(w.times(f, h), p), t), reference),
		D: w.by(w.plus(w.times(f, g), p), t),
	})
}

// The document defines the forms by Go's operators in a fixed order, down to the signs of zero.
func TestP8P9P10P11AreReckonedAsTold(t *testing.T) {
	references := []complex64{1, 50, complex(0, -1), complex(0.3, -0.7), 1e-30, complex(1e25, -1e20), complex(minus0, least32), complex(-max32, 0), 0, complex(1, inf32)}
	list := append(wholeTwos(8), mixedTwos()...)
	r := chance()
	for range 20000 {
		list = append(list, impl.Two{A: impl.Milli(r.Intn(4000)-2000, r.Intn(4000)-2000), B: impl.Milli(r.Intn(4000)-2000, 0), C: impl.Milli(0, r.Intn(4000)-2000), D: impl.Milli(r.Intn(40)-20, r.Intn(4000)-2000)})
	}
	told := map[string]int{}
	compare := func(what string, got impl.Two, ok bool, want impl.Two, wantOk bool) {
		expectTwo(t, what, got, ok, want, wantOk)
		if ok {
			told[what]++
		}
	}
	for i, m := range list {
		reference := references[i%len(references)]
		w := &way{}
		want := w.determinant(m)
		if w.lost {
			want = 0
		}
		got, ok := impl.Determinant(m)
		expect(t, "Determinant", got, ok, want, !w.lost)

		other, otherOk := impl.OtherForm(m)
		asTold, asToldOk := otherFormAsTold(m)
		compare("OtherForm", other, otherOk, asTold, asToldOk)

		inverse, inverseOk := impl.Inverse(m)
		asTold, asToldOk = inverseAsTold(m)
		compare("Inverse", inverse, inverseOk, asTold, asToldOk)

		s, sOk := impl.ScatteringOf(m, reference)
		asTold, asToldOk = scatteringAsTold(m, reference)
		compare("ScatteringOf", s, sOk, asTold, asToldOk)

		c, cOk := impl.ChainOf(m, reference)
		asTold, asToldOk = chainAsTold(m, reference)
		compare("ChainOf", c, cOk, asTold, asToldOk)
	}
	for what, n := range told {
		if n < 5000 {
			t.Error("too seldom told:", what, n)
		}
	}
	if len(told) != 4 {
		t.Error(told)
	}
}
