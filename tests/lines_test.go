package tests

import (
	"math"
	"testing"

	"loop.example/twoports/impl"
)

// turnsTold are the sixteen numbers of the document, each with 0 and not -0.
func turnsTold() []complex64 {
	var c, d, e float32 = 0.9238795, 0.38268343, 0.70710677
	return []complex64{
		complex(1, 0), complex(c, d), complex(e, e), complex(d, c), complex(0, 1), complex(-d, c), complex(-e, e), complex(-c, d),
		complex(-1, 0), complex(-c, -d), complex(-e, -e), complex(-d, -c), complex(0, -1), complex(d, -c), complex(e, -e), complex(c, -d),
	}
}

// turnAsTold finds the remainder by going full turns, and not by an operator.
func turnAsTold(k int) complex64 {
	for k < 0 {
		k += 16
	}
	for k > 15 {
		k -= 16
	}
	return turnsTold()[k]
}

// noLines are sixteenths and losses beyond their ranges.
func noLines() [][2]int {
	var list [][2]int
	for _, k := range []int{-1, -2, -15, -16, -17, -9999, -10000, 10000, 10001, 10016, 1 << 20, 1 << 32, math.MinInt, math.MaxInt} {
		list = append(list, [2]int{k, 0}, [2]int{k, 1}, [2]int{k, 500})
	}
	for _, loss := range []int{-1, -2, -500, -9999, 501, 502, 999, 1000, 1001, 9999, 1 << 32, math.MinInt, math.MaxInt} {
		list = append(list, [2]int{0, loss}, [2]int{8, loss}, [2]int{9999, loss}, [2]int{loss, loss})
	}
	return append(list, [2]int{10000, 501}, [2]int{-1, -1})
}

func runs(t *testing.T, k, loss int) complex64 {
	t.Helper()
	p, ok := impl.RunsAlong(k, loss)
	if !ok {
		t.Fatal("nothing runs along", k, loss)
	}
	return p
}

func line(t *testing.T, z complex64, k, loss int) impl.Two {
	t.Helper()
	m, ok := impl.LineChain(z, k, loss)
	if !ok {
		t.Fatal("no line of", z, k, loss)
	}
	return m
}

func TestP25TheTableOfTurns(t *testing.T) {
	for k := -9999; k <= 9999; k++ {
		if got, want := impl.TurnOf(k), turnAsTold(k); !same(got, want) {
			t.Fatalf("%d: got %v, want %v", k, got, want)
		}
	}
	for k := range 16 {
		angle := float64(k) * math.Pi / 8
		if got, want := impl.TurnOf(k), complex(math.Cos(angle), math.Sin(angle)); !impl.Near(got, complex64(want), 1e-7) {
			t.Errorf("%d: got %v, want %v", k, got, want)
		}
	}
}

func TestP25TurnsAreOfLengthOne(t *testing.T) {
	for k := -9999; k <= 9999; k++ {
		turn := impl.TurnOf(k)
		if p := impl.Power(turn); math.Abs(p-1) > 0.000001 {
			t.Fatalf("%d has the power %v", k, p)
		}
		if k+8 <= 9999 && impl.TurnOf(k+8) != -turn {
			t.Fatalf("half a turn behind %d: %v", k, impl.TurnOf(k+8))
		}
		if k+16 <= 9999 && !same(impl.TurnOf(k+16), turn) {
			t.Fatalf("a full turn behind %d: %v", k, impl.TurnOf(k+16))
		}
		if impl.TurnOf(-k) != impl.Turned(turn) {
			t.Fatalf("back by %d: %v", k, impl.TurnOf(-k))
		}
	}
}

func TestP25TheFarthestTurns(t *testing.T) {
	for _, c := range []struct {
		k    int
		want complex64
	}{
		{9999, complex(0.9238795, -0.38268343)}, // 15 sixteenths
		{-9999, complex(0.9238795, 0.38268343)}, // 1 of them
		{9984, 1},
		{-9984, 1},
		{-1, complex(0.9238795, -0.38268343)},
		{-16, 1},
		{-15, complex(0.9238795, 0.38268343)},
	} {
		if got := impl.TurnOf(c.k); !same(got, c.want) {
			t.Errorf("%d: got %v, want %v", c.k, got, c.want)
		}
	}
	for _, k := range []int{10000, -10000, 10001, -10001, 16000, -16000, 1 << 32, -1 << 32, math.MaxInt, math.MinInt} {
		if got := impl.TurnOf(k); !same(got, 0) {
			t.Errorf("%d is no turn, but %v", k, got)
		}
	}
}

func TestP26LinesMakeNothingMore(t *testing.T) {
	for k := 0; k <= 9999; k++ {
		for loss := k % 7; loss <= 500; loss += 7 {
			p := impl.Power(runs(t, k, loss))
			if p > 1.000001 || p < 0.249 {
				t.Fatalf("%d sixteenths, %d thousandths: the power %v", k, loss, p)
			}
			kept := float64(1000-loss) / 1000
			if math.Abs(p-kept*kept) > 0.000001 {
				t.Fatalf("%d sixteenths, %d thousandths: the power %v, want %v", k, loss, p, kept*kept)
			}
		}
	}
	for k := 0; k <= 9999; k += 16 {
		if p := runs(t, k, 0); p != 1 {
			t.Fatalf("%d full turns without loss: %v", k/16, p)
		}
	}
}

func TestP26WhatRunsAlong(t *testing.T) {
	for _, c := range []struct {
		k, loss int
		want    complex64
	}{
		{0, 0, 1},
		{0, 500, 0.5},
		{0, 1, 0.999},
		{0, 499, 0.501},
		{4, 0, -j},
		{4, 500, -0.5 * j},
		{8, 0, -1},
		{8, 250, -0.75},
		{12, 500, 0.5 * j},
		{16, 0, 1},
		{1, 0, complex(0.9238795, -0.38268343)},
		{2, 0, complex(0.70710677, -0.70710677)},
		{15, 500, complex(0.9238795/2, 0.38268343/2)},
		{9999, 0, complex(0.9238795, 0.38268343)},
		{9984, 500, 0.5},
		{9996, 500, 0.5 * j},
	} {
		if got := runs(t, c.k, c.loss); got != c.want {
			t.Errorf("%d sixteenths, %d thousandths: got %v, want %v", c.k, c.loss, got, c.want)
		}
	}
	for _, c := range noLines() {
		got, ok := impl.RunsAlong(c[0], c[1])
		expect(t, "along no line", got, ok, 0, false)
	}
}

func TestP27LinesHaveTheDeterminantOne(t *testing.T) {
	for z := 1; z <= 100; z++ {
		for i, k := range []int{0, 1, 2, 3, 4, 5, 6, 7, 8, 9, 10, 11, 12, 13, 14, 15, 16, 17, 9984, 9999} {
			for _, loss := range []int{0, 1, 10 + i, 100 + z, 333, 499, 500} {
				m := line(t, complex(float32(z), 0), k, loss)
				if d, ok := impl.Determinant(m); !ok || !impl.Near(d, 1, 0.001) {
					t.Fatalf("%d with %d sixteenths, %d thousandths: %v %v", z, k, loss, d, ok)
				}
			}
		}
	}
}

func TestP27LengthsAddUp(t *testing.T) {
	for z := 1; z <= 100; z++ {
		impedance := complex(float32(z), 0)
		for _, k := range []int{0, 1, 2, 3, 4, 5, 6, 7, 8, 9, 10, 11, 12, 13, 14, 15, 16, 23, 8888} {
			first := line(t, impedance, k, 0)
			for next := 0; next <= 17; next++ {
				m := cascade(t, first, line(t, impedance, next, 0))
				if want := line(t, impedance, k+next, 0); !impl.NearTwo(m, want, 0.01) {
					t.Fatalf("%d with %d and %d sixteenths: %v, want %v", z, k, next, m, want)
				}
			}
			last := 9999 - k
			if m := cascade(t, first, line(t, impedance, last, 0)); !impl.NearTwo(m, line(t, impedance, 9999, 0), 0.01) {
				t.Fatalf("%d with %d and %d sixteenths: %v", z, k, last, m)
			}
		}
	}
}

func TestP27HalfATurnChangesTheSignAlone(t *testing.T) {
	half := impl.Two{A: -1, D: -1}
	for z := 1; z <= 100; z++ {
		impedance := complex(float32(z), 0)
		for k := 8; k <= 9999; k += 16 {
			if m := line(t, impedance, k, 0); m != half {
				t.Fatalf("%d with %d sixteenths: %v", z, k, m)
			}
		}
		for k := 0; k <= 9999; k += 16 {
			if m := line(t, impedance, k, 0); m != wire {
				t.Fatalf("%d with %d sixteenths: %v", z, k, m)
			}
		}
	}
	for _, z := range finiteNumbers() {
		if z == 0 {
			continue
		}
		if m := line(t, z, 8, 0); m != half {
			t.Fatalf("%v with half a turn: %v", z, m)
		}
		if m := line(t, z, 0, 0); m != wire {
			t.Fatalf("%v without length: %v", z, m)
		}
	}
}

func TestP27Lines(t *testing.T) {
	for _, c := range []struct {
		z       complex64
		k, loss int
		want    impl.Two
	}{
		{50, 4, 0, impl.Two{B: 50 * j, C: 0.02 * j}},
		{50, 12, 0, impl.Two{B: -50 * j, C: -0.02 * j}},
		{50, 0, 500, impl.Two{A: 1.25, B: 37.5, C: 0.015, D: 1.25}},
		{2, 8, 500, impl.Two{A: -1.25, B: -1.5, C: -0.375, D: -1.25}},
		{2, 4, 500, impl.Two{A: 0.75 * j, B: 2.5 * j, C: 0.625 * j, D: 0.75 * j}},
		{2, 9996, 500, impl.Two{A: -0.75 * j, B: -2.5 * j, C: -0.625 * j, D: -0.75 * j}},
		{complex(0, 4), 4, 0, impl.Two{B: -4, C: 0.25}},
		{complex(3, -4), 0, 500, impl.Two{A: 1.25, B: complex(2.25, -3), C: complex(0.09, 0.12), D: 1.25}},
		{-1, 4, 0, impl.Two{B: -j, C: -j}},
		{greatest, 4, 0, impl.Two{B: complex(0, max32), C: complex(0, 1/max32)}},
	} {
		if got, ok := impl.LineChain(c.z, c.k, c.loss); !ok || !impl.NearTwo(got, c.want, 1e-7) {
			t.Errorf("%v with %d sixteenths, %d thousandths: got %v %v, want %v", c.z, c.k, c.loss, got, ok, c.want)
		}
	}
}

// A quarter of a turn leads from an impedance to its inverse, as seen by the impedance of the line.
func TestP27AQuarterOfATurnExchanges(t *testing.T) {
	for _, z := range []float32{1, 2, 50} {
		for _, load := range []float32{0.5, 1, 4, 100} {
			got, ok := impl.SeenAt(line(t, complex(z, 0), 4, 0), complex(load, 0))
			if !ok || !impl.Near(got, complex(z*z/load, 0), 0.01) {
				t.Errorf("%v behind %v: %v %v", load, z, got, ok)
			}
		}
	}
}

func TestP27LinesThatAreNotThere(t *testing.T) {
	for _, zero := range zeros {
		for _, k := range []int{0, 4, 8, 16, 9999} {
			m, ok := impl.LineChain(zero, k, 0)
			expectNone(t, "without an impedance", m, ok)
			m, ok = impl.LineChain(zero, k, 500)
			expectNone(t, "without an impedance", m, ok)
		}
	}
	for _, broken := range brokenNumbers() {
		for _, k := range []int{0, 4, 8, 9999} {
			m, ok := impl.LineChain(broken, k, 0)
			expectNone(t, "with no impedance", m, ok)
			m, ok = impl.LineChain(broken, k, 500)
			expectNone(t, "with no impedance", m, ok)
		}
	}
	for _, c := range noLines() {
		for _, z := range []complex64{1, 50, complex(3, -4)} {
			m, ok := impl.LineChain(z, c[0], c[1])
			expectNone(t, "of no length", m, ok)
		}
	}
	for _, c := range []struct {
		z       complex64
		k, loss int
	}{
		{greatest, 4, 500},                // the product
		{complex(0, -max32), 4, 500},      // its first part
		{complex(max32, -max32), 2, 500},  // its sum
		{1e-39, 4, 0},                     // the quotient
		{complex(0, least32), 4, 0},       // its first part
		{complex(least32, minus0), 0, 1},  // a little loss alone
		{complex(least32, least32), 1, 0}, // a sixteenth alone
	} {
		m, ok := impl.LineChain(c.z, c.k, c.loss)
		expectNone(t, "with a number that is too great", m, ok)
	}
}

func lineAsTold(z complex64, k, loss int) (impl.Two, bool) {
	w := &way{}
	w.there(z)
	p := w.times(impl.Milli(1000-loss, 0), impl.Turned(turnAsTold(k)))
	q := w.by(1, p)
	s, d := w.by(w.plus(q, p), 2), w.by(w.less(q, p), 2)
	return w.end(impl.Two{A: s, B: w.times(z, d), C: w.by(d, z), D: s})
}

// Lines are reckoned by Go's operators in the order told, down to the signs of zero.
func TestP26P27AreReckonedAsTold(t *testing.T) {
	numbers := allNumbers()
	told := 0
	for k := 0; k <= 48; k++ {
		for _, loss := range []int{0, 1, 2, 77, 250, 333, 499, 500} {
			w := &way{}
			want, wantOk := w.number(w.times(impl.Milli(1000-loss, 0), impl.Turned(turnAsTold(k))))
			p, pOk := impl.RunsAlong(k, loss)
			expect(t, "RunsAlong", p, pOk, want, wantOk)
			for _, z := range numbers {
				got, ok := impl.LineChain(z, k, loss)
				line, lineOk := lineAsTold(z, k, loss)
				expectTwo(t, "LineChain", got, ok, line, lineOk)
				if ok {
					told++
				}
			}
		}
	}
	if told < 500000 {
		t.Error("told only", told)
	}
}
