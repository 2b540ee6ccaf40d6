package tests

import (
	"math"
	"testing"

	"loop.example/twoports/impl"
)

// reflected returns reflections with a Power of at most 1.1, some of them at the edge.
func reflected() []complex64 {
	list := append(turnsTold(), zeros...)
	for _, g := range append(finiteNumbers(), turnsTold()...) {
		for _, scale := range []float32{1, -0.5, 1.0488} {
			scaled := g * complex(scale, 0)
			if p := impl.Power(scaled); p >= 0 && p <= 1.1 {
				list = append(list, scaled)
			}
		}
	}
	r := chance()
	for range 2000 {
		angle, length := r.Float64()*2*math.Pi, math.Sqrt(r.Float64()*1.0999)
		list = append(list, complex(float32(length*math.Cos(angle)), float32(length*math.Sin(angle))))
	}
	return list
}

func behind(t *testing.T, g complex64, k, loss int) complex64 {
	t.Helper()
	seen, ok := impl.BehindLine(g, k, loss)
	if !ok {
		t.Fatal("nothing is seen of", g, k, loss)
	}
	return seen
}

// secondPart is the absolute value of the second part of what is seen behind a line without loss.
func secondPart(t *testing.T, g complex64, k int) float32 {
	t.Helper()
	return float32(math.Abs(float64(imag(behind(t, g, k, 0)))))
}

func TestP28BehindALineReflectionsTurnTwice(t *testing.T) {
	list := reflected()
	for _, k := range []int{0, 1, 2, 3, 4, 5, 6, 7, 8, 9, 10, 11, 12, 13, 14, 15, 16, 17, 9984, 9992, 9999} {
		for _, loss := range []int{0, 1, 77, 250, 499, 500} {
			s, ok := impl.ScatteringOf(line(t, 1, k, loss), 1)
			if !ok {
				t.Fatal("no scattering of a line with", k, loss)
			}
			for _, g := range list {
				seen := behind(t, g, k, loss)
				if through, ok := impl.ThroughOf(s, g); !ok || !impl.Near(seen, through, 0.001) {
					t.Fatalf("%v behind %d sixteenths, %d thousandths: %v, and through the scattering %v %v", g, k, loss, seen, through, ok)
				}
			}
		}
	}
}

func TestP28HalfATurnChangesNothing(t *testing.T) {
	for _, g := range append(reflected(), finiteNumbers()...) {
		for _, k := range []int{8, 0, 16, 24, 9984, 9992} {
			if seen := behind(t, g, k, 0); seen != g {
				t.Fatalf("%v behind %d sixteenths: %v", g, k, seen)
			}
		}
		for _, k := range []int{4, 12, 9988, 9996} {
			if seen := behind(t, g, k, 0); seen != -g {
				t.Fatalf("%v behind %d sixteenths: %v", g, k, seen)
			}
		}
	}
}

func TestP28WhatIsSeenBehindALine(t *testing.T) {
	for _, c := range []struct {
		g       complex64
		k, loss int
		want    complex64
	}{
		{0.5, 4, 0, -0.5},
		{complex(2, -3), 0, 500, complex(0.5, -0.75)},
		{complex(2, -3), 4, 500, complex(-0.5, 0.75)},
		{complex(2, -3), 8, 500, complex(0.5, -0.75)},
		{1, 2, 0, -j},
		{1, 6, 0, j},
		{j, 2, 500, 0.25},
		{1, 1, 0, complex(0.70710677, -0.70710677)},
		{1, 9999, 0, complex(0.70710677, 0.70710677)},
		{1, 3, 500, complex(-0.17677669, -0.17677669)},
		{-1, 16, 100, -0.81},
	} {
		if seen := behind(t, c.g, c.k, c.loss); !impl.Near(seen, c.want, 1e-6) {
			t.Errorf("%v behind %d sixteenths, %d thousandths: got %v, want %v", c.g, c.k, c.loss, seen, c.want)
		}
	}
	for _, zero := range zeros {
		for k := range 33 {
			for _, loss := range []int{0, 1, 250, 500} {
				if seen := behind(t, zero, k, loss); seen != 0 {
					t.Errorf("0 behind %d sixteenths, %d thousandths: %v", k, loss, seen)
				}
			}
		}
	}
}

func TestP28WhatIsNotSeenBehindALine(t *testing.T) {
	for _, c := range noLines() {
		for _, g := range []complex64{0, 0.5, complex(3, -4)} {
			got, ok := impl.BehindLine(g, c[0], c[1])
			expect(t, "behind no line", got, ok, 0, false)
		}
	}
	for _, broken := range brokenNumbers() {
		for k := range 17 {
			got, ok := impl.BehindLine(broken, k, 0)
			expect(t, "of no reflection", got, ok, 0, false)
			got, ok = impl.BehindLine(broken, k, 500)
			expect(t, "of no reflection", got, ok, 0, false)
		}
	}
	for _, c := range []struct {
		g complex64
		k int
	}{
		{complex(max32, max32), 1},   // the first part
		{complex(max32, max32), 3},   // the second part
		{complex(-max32, max32), 9},  // the second part
		{complex(-max32, max32), 15}, // the first part
	} {
		got, ok := impl.BehindLine(c.g, c.k, 0)
		expect(t, "with a number that is too great", got, ok, 0, false)
		if _, ok := impl.BehindLine(c.g, c.k, 500); !ok {
			t.Error("with loss it is not too great:", c.g, c.k)
		}
	}
}

func TestP29SomeTurnMakesItNearlyReal(t *testing.T) {
	for _, g := range reflected() {
		k := impl.LeastTurn(g)
		if k < 0 || k > 8 {
			t.Fatalf("%v: %d", g, k)
		}
		least := secondPart(t, g, k)
		if least > 0.45 {
			t.Fatalf("%v with %d sixteenths: the second part is %v", g, k, least)
		}
		for other := range 9 {
			part := secondPart(t, g, other)
			if part < least || part == least && other < k {
				t.Fatalf("%v: %d, though with %d the second part is %v and not %v", g, k, other, part, least)
			}
		}
	}
}

func TestP29TheLeastTurn(t *testing.T) {
	for _, c := range []struct {
		g    complex64
		want int
	}{
		{0.5, 0},
		{-0.5, 0},
		{complex(0.5, minus0), 0},
		{0, 0},
		{0.5 * j, 2},
		{-0.5 * j, 2},
		{complex(1, 1), 1},
		{complex(-1, -1), 1},
		{complex(1, -1), 3},
		{complex(-1, 1), 3},
		{complex(0.1, 1), 2},
		{complex(1, 0.1), 0},
		{complex(1, -0.1), 0},
		{greatest, 0},
		{complex(0, -max32), 2},
		{least, 0},
		{complex(max32, max32), 2}, // the numbers of 1 and of 5 sixteenths are too great
		{complex(max32, -max32), 2},
	} {
		if got := impl.LeastTurn(c.g); got != c.want {
			t.Errorf("%v: got %d, want %d", c.g, got, c.want)
		}
	}
	for _, broken := range brokenNumbers() {
		if got := impl.LeastTurn(broken); got != -1 {
			t.Errorf("%v: got %d, want -1", broken, got)
		}
	}
}

// Where two turns are equally good, the one that leads below 0 is no better, nor is the later one.
func TestP29OfTwoTurnsTheLesserOne(t *testing.T) {
	opposite := 0
	for _, g := range append(reflected(), finiteNumbers()...) {
		k := impl.LeastTurn(g)
		for other := k + 1; other <= 8; other++ {
			seen, ok := impl.BehindLine(g, other, 0)
			if ok && imag(seen) < 0 && imag(seen) == -imag(behind(t, g, k, 0)) {
				opposite++
			}
		}
		if k > 3 {
			t.Errorf("%v: %d, though with 4 less it is the negative", g, k)
		}
	}
	if opposite < 100 {
		t.Error("too few with opposite second parts:", opposite)
	}
}

func behindAsTold(g complex64, k, loss int) (complex64, bool) {
	w := &way{}
	w.there(g)
	p := w.times(impl.Milli(1000-loss, 0), impl.Turned(turnAsTold(k)))
	return w.number(w.times(w.times(p, p), g))
}

func leastTurnAsTold(g complex64) int {
	least, part := -1, math.Inf(1)
	for k := range 9 {
		seen, ok := behindAsTold(g, k, 0)
		if found := math.Abs(float64(imag(seen))); ok && found < part {
			least, part = k, found
		}
	}
	return least
}

// What is seen is reckoned by Go's operators in the order told, down to the signs of zero.
func TestP28P29AreReckonedAsTold(t *testing.T) {
	told := 0
	for _, g := range append(reflected(), allNumbers()...) {
		for _, k := range []int{0, 1, 2, 3, 4, 5, 6, 7, 8, 9, 10, 11, 12, 13, 14, 15, 16, 29, 9999} {
			for _, loss := range []int{0, 1, 333, 500} {
				got, ok := impl.BehindLine(g, k, loss)
				want, wantOk := behindAsTold(g, k, loss)
				expect(t, "BehindLine", got, ok, want, wantOk)
				if ok {
					told++
				}
			}
		}
		if got, want := impl.LeastTurn(g), leastTurnAsTold(g); got != want {
			t.Errorf("LeastTurn(%v): got %d, want %d", g, got, want)
		}
	}
	if told < 300000 {
		t.Error("told only", told)
	}
}
