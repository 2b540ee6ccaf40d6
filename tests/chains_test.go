package tests

import (
	"math"
	"testing"

	"loop.example/twoports/impl"
)

var (
	wire   = impl.Two{A: 1, D: 1}
	ratios = []complex64{1, 2, -4, 0.5}
)

// chain puts parts together, all of which must be there.
func chain(t *testing.T, parts ...impl.Two) impl.Two {
	t.Helper()
	m, ok := impl.ChainAll(parts)
	if !ok {
		t.Fatal("no chain of", parts)
	}
	return m
}

func series(t *testing.T, z complex64) impl.Two {
	t.Helper()
	return part(t, impl.SeriesPart, z)
}

func gyrator(t *testing.T, r complex64) impl.Two {
	t.Helper()
	return part(t, impl.GyratorPart, r)
}

func part(t *testing.T, of func(complex64) (impl.Two, bool), number complex64) impl.Two {
	t.Helper()
	m, ok := of(number)
	if !ok {
		t.Fatal("no part of", number)
	}
	return m
}

// cascade wants the product to be told.
func cascade(t *testing.T, m, n impl.Two) impl.Two {
	t.Helper()
	product, ok := impl.Cascade(m, n)
	if !ok {
		t.Fatalf("%v and %v are not told", m, n)
	}
	return product
}

func TestP12ImpedancesInTheWayAddUp(t *testing.T) {
	for _, z := range wholeNumbers() {
		if got, want := cascade(t, series(t, z), series(t, z)), series(t, z+z); got != want || want.B != 2*z {
			t.Fatalf("%v: %v, want %v", z, got, want)
		}
		other := complex(float32(7), -imag(z))
		if got, want := cascade(t, series(t, z), series(t, other)), series(t, z+other); got != want {
			t.Fatalf("%v and %v: %v, want %v", z, other, got, want)
		}
	}
}

func TestP12P13PartsInTheWayAndAcross(t *testing.T) {
	for _, z := range finiteNumbers() {
		m, ok := impl.SeriesPart(z)
		expectTwo(t, "in the way", m, ok, impl.Two{A: 1, B: z, D: 1}, true)
		m, ok = impl.ShuntPart(z)
		expectTwo(t, "across", m, ok, impl.Two{A: 1, C: z, D: 1}, true)
	}
	for _, z := range brokenNumbers() {
		m, ok := impl.SeriesPart(z)
		expectNone(t, "no impedance in the way", m, ok)
		m, ok = impl.ShuntPart(z)
		expectNone(t, "no admittance across", m, ok)
	}
}

func TestP13AcrossIsInTheWayBehindAGyrator(t *testing.T) {
	g := gyrator(t, 1)
	for _, y := range wholeNumbers() {
		if got, want := chain(t, g, part(t, impl.ShuntPart, y), g), series(t, y); got != want {
			t.Fatalf("%v: %v, want %v", y, got, want)
		}
		if got, want := chain(t, g, series(t, y), g), part(t, impl.ShuntPart, y); got != want {
			t.Fatalf("%v in the way: %v, want %v", y, got, want)
		}
	}
}

func TestP14RatiosMultiply(t *testing.T) {
	for _, n := range ratios {
		for _, m := range ratios {
			got := cascade(t, part(t, impl.TransformerPart, n), part(t, impl.TransformerPart, m))
			if want := part(t, impl.TransformerPart, n*m); got != want {
				t.Errorf("%v and %v: %v, want %v", n, m, got, want)
			}
		}
	}
}

func TestP14TransformersHaveTheDeterminantOne(t *testing.T) {
	told := 0
	for _, n := range finiteNumbers() {
		m, ok := impl.TransformerPart(n)
		if !ok {
			continue
		}
		if d, dOk := impl.Determinant(m); dOk {
			told++
			if !impl.Near(d, 1, 0.001) {
				t.Errorf("%v has the determinant %v", n, d)
			}
		}
	}
	if told < 1000 {
		t.Error("told only", told)
	}
}

func TestP14P15RatiosAndResistances(t *testing.T) {
	for _, c := range []struct{ number, back complex64 }{
		{1, 1}, {2, 0.5}, {-4, -0.25}, {0.5, 2}, {complex(0, 2), complex(0, -0.5)}, {complex(1, 1), complex(0.5, -0.5)}, {complex(0.25, -0.25), complex(2, 2)}, {0x1p-120, 0x1p120},
	} {
		if m := part(t, impl.TransformerPart, c.number); m != (impl.Two{A: c.number, D: c.back}) {
			t.Error("a transformer:", c.number, m)
		}
		if m := gyrator(t, c.number); m != (impl.Two{B: c.number, C: c.back}) {
			t.Error("a gyrator:", c.number, m)
		}
	}
}

func TestP14P15NumbersThatAreNoRatio(t *testing.T) {
	list := append(brokenNumbers(), zeros...)
	// 1 divided by these is too great.
	list = append(list, least, complex(0, least32), complex(0, -1e-39), complex(-1e-39, 1e-40))
	for _, n := range list {
		m, ok := impl.TransformerPart(n)
		expectNone(t, "no ratio", m, ok)
		m, ok = impl.GyratorPart(n)
		expectNone(t, "no resistance", m, ok)
	}
}

func TestP15TwoGyratorsAreATransformer(t *testing.T) {
	for _, r := range ratios {
		if got := cascade(t, gyrator(t, r), gyrator(t, r)); got != wire {
			t.Errorf("%v twice: %v", r, got)
		}
		for _, other := range ratios {
			got := cascade(t, gyrator(t, r), gyrator(t, other))
			if want := part(t, impl.TransformerPart, r/other); got != want {
				t.Errorf("%v and %v: %v, want %v", r, other, got, want)
			}
		}
	}
}

func TestP16ChainsGoTogetherInAnyWay(t *testing.T) {
	r := chance()
	list := wholeTwos(20)
	for i, m := range list {
		n, o := list[len(list)-1-i], wholeTwo(r, 20)
		first := cascade(t, cascade(t, m, n), o)
		if last := cascade(t, m, cascade(t, n, o)); first != last {
			t.Fatalf("%v, %v and %v: %v or %v", m, n, o, first, last)
		}
	}
}

func TestP16DeterminantsMultiply(t *testing.T) {
	list := wholeTwos(20)
	for i, m := range list {
		n := list[len(list)-1-i]
		product := cascade(t, m, n)
		d, ok := impl.Determinant(product)
		first, firstOk := impl.Determinant(m)
		second, secondOk := impl.Determinant(n)
		if !ok || !firstOk || !secondOk || d != wholeProduct(first, second) {
			t.Fatalf("%v and %v: %v, want %v times %v", m, n, d, first, second)
		}
	}
}

func TestP16TurnedChainsGoTogetherTheOtherWay(t *testing.T) {
	list := wholeTwos(20)
	for i, m := range list {
		n := list[len(list)-1-i]
		got, ok := impl.TurnedChain(cascade(t, m, n))
		first, firstOk := impl.TurnedChain(m)
		second, secondOk := impl.TurnedChain(n)
		if want := cascade(t, second, first); !ok || !firstOk || !secondOk || got != want {
			t.Fatalf("%v and %v: %v, want %v", m, n, got, want)
		}
	}
}

func TestP16WholeChains(t *testing.T) {
	list := wholeTwos(20)
	for i, m := range list {
		n := list[(i*7+1)%len(list)]
		if got, want := cascade(t, m, n), times(m, n); got != want {
			t.Fatalf("%v and %v: %v, want %v", m, n, got, want)
		}
	}
	first := impl.Two{A: 1, B: 2, C: 3, D: 4}
	second := impl.Two{A: 5, B: 6, C: 7, D: complex(0, 8)}
	want := impl.Two{A: 19, B: complex(6, 16), C: 43, D: complex(18, 32)}
	if got := cascade(t, first, second); got != want {
		t.Error(got)
	}
}

func TestP16ChainsThatAreNotTold(t *testing.T) {
	for _, c := range []struct{ m, n impl.Two }{
		{impl.Two{A: 1e30}, impl.Two{A: 1e30}},
		{impl.Two{A: 1e30}, impl.Two{B: 1e30}},
		{impl.Two{B: 1e30}, impl.Two{C: 1e30}},
		{impl.Two{B: 1e30}, impl.Two{D: 1e30}},
		{impl.Two{C: 1e30}, impl.Two{A: 1e30}},
		{impl.Two{C: 1e30}, impl.Two{B: 1e30}},
		{impl.Two{D: 1e30}, impl.Two{C: 1e30}},
		{impl.Two{D: 1e30}, impl.Two{D: 1e30}},
		{impl.Two{A: 1e30, B: 1e30}, impl.Two{A: 1e30, C: -1e30}},                        // both products
		{impl.Two{A: greatest, B: greatest}, impl.Two{A: 1, C: 1}},                       // the sum alone
		{impl.Two{C: 1, D: complex(0, 1)}, impl.Two{B: greatest, D: complex(0, -max32)}}, // the sum alone
	} {
		got, ok := impl.Cascade(c.m, c.n)
		expectNone(t, "too great a chain", got, ok)
	}
	got, ok := impl.Cascade(impl.Two{A: greatest, B: greatest}, impl.Two{A: 1, C: -1})
	expectTwo(t, "a difference of the greatest", got, ok, impl.Two{}, true)
	for _, broken := range brokenTwos() {
		for _, m := range []impl.Two{wire, {}, {A: 2, B: 1, C: 1, D: 1}, broken} {
			got, ok := impl.Cascade(broken, m)
			expectNone(t, "of what is no matrix", got, ok)
			got, ok = impl.Cascade(m, broken)
			expectNone(t, "behind it what is no matrix", got, ok)
		}
	}
}

func TestP16P58TurnedChains(t *testing.T) {
	m := impl.Two{A: -1, B: complex(0, 2), C: complex(0, 1), D: 1}
	got, ok := impl.TurnedChain(m)
	expectTwo(t, "turned", got, ok, impl.Two{A: 1, B: complex(0, 2), C: complex(0, 1), D: -1}, true)
	m = impl.Two{A: greatest, B: 1, C: 2, D: complex(minus0, 1e30)}
	got, ok = impl.TurnedChain(m)
	expectTwo(t, "turned, without a determinant", got, ok, impl.Two{A: m.D, B: 1, C: 2, D: m.A}, true)
	for _, m := range brokenTwos() {
		got, ok = impl.TurnedChain(m)
		expectNone(t, "turned, of what is no matrix", got, ok)
	}
}

func TestP58TurnedTwiceItIsAsBefore(t *testing.T) {
	for _, m := range wholeTwos(1000) {
		once, ok := impl.TurnedChain(m)
		twice, twiceOk := impl.TurnedChain(once)
		if !ok {
			t.Fatal("not turned:", m)
		}
		expectTwo(t, "turned twice", twice, twiceOk, m, true)
		before, beforeOk := impl.Determinant(m)
		after, afterOk := impl.Determinant(once)
		if !beforeOk || !afterOk || before != after {
			t.Fatalf("%v: %v, turned %v", m, before, after)
		}
	}
}

func TestP17ChainsArePutTogetherPartByPart(t *testing.T) {
	r := chance()
	for range 20000 {
		list := make([]impl.Two, r.Intn(5))
		for i := range list {
			list[i] = wholeTwo(r, 3)
		}
		all := chain(t, list...)
		for cut := range len(list) + 1 {
			if got := cascade(t, chain(t, list[:cut]...), chain(t, list[cut:]...)); got != all {
				t.Fatalf("%v cut at %d: %v, want %v", list, cut, got, all)
			}
		}
	}
}

func TestP17Chains(t *testing.T) {
	for _, none := range [][]impl.Two{nil, {}} {
		got, ok := impl.ChainAll(none)
		expectTwo(t, "without parts", got, ok, wire, true)
	}
	a, b, c := series(t, complex(0, 2)), part(t, impl.ShuntPart, complex(0, 1)), part(t, impl.TransformerPart, 2)
	if got := chain(t, a); got != a {
		t.Error("one part:", got)
	}
	if got := chain(t, a, b); got != (impl.Two{A: -1, B: complex(0, 2), C: complex(0, 1), D: 1}) {
		t.Error("two parts:", got)
	}
	if got := chain(t, b, a); got != (impl.Two{A: 1, B: complex(0, 2), C: complex(0, 1), D: -1}) {
		t.Error("the other way round:", got)
	}
	if got := chain(t, a, b, c); got != (impl.Two{A: -2, B: complex(0, 1), C: complex(0, 2), D: 0.5}) {
		t.Error("three parts:", got)
	}
}

func TestP17ChainsOfMaxParts(t *testing.T) {
	if impl.MaxParts != 8 {
		t.Fatal(impl.MaxParts)
	}
	list := make([]impl.Two, 0, 20)
	for n := range 20 {
		got, ok := impl.ChainAll(list)
		if n <= 8 {
			if want := series(t, complex(float32(n), float32(-2*n))); !ok || got != want {
				t.Error(n, "parts:", got, ok)
			}
		} else {
			expectNone(t, "too many parts", got, ok)
		}
		list = append(list, series(t, complex(1, -2)))
	}
}

func TestP17ChainsThatAreNotTold(t *testing.T) {
	great := impl.Two{A: 1e20, D: 1}
	got, ok := impl.ChainAll([]impl.Two{great, great})
	expectNone(t, "too great a chain", got, ok)
	// The last part would make it small again.
	got, ok = impl.ChainAll([]impl.Two{great, great, {A: 1e-20, D: 1}})
	expectNone(t, "a chain that is too great on the way", got, ok)
	got, ok = impl.ChainAll([]impl.Two{great, great, {}})
	expectNone(t, "behind it nothing", got, ok)
	if got := chain(t, great, impl.Two{A: 1e-20, D: 1}, great); !impl.NearTwo(impl.Two{A: got.A / 1e20, D: got.D}, wire, 0.001) {
		t.Error(got)
	}
	for _, broken := range brokenTwos() {
		for _, list := range [][]impl.Two{{broken}, {broken, {}}, {{}, broken}, {wire, broken, wire}, {wire, wire, wire, wire, wire, wire, wire, broken}} {
			got, ok := impl.ChainAll(list)
			expectNone(t, "with what is no matrix", got, ok)
		}
	}
}

func TestP17PartsAreLeftAsTheyWere(t *testing.T) {
	room := [4]impl.Two{{A: 2, B: 3, C: 1, D: 2}, {A: 1, B: complex(0, 5), D: 1}, {A: 7}, {B: 9}}
	before := room
	chain(t, room[:2]...)
	if room != before {
		t.Error(room)
	}
}

func TestP18WhatIsSeenIsSeenThrough(t *testing.T) {
	r := chance()
	told := 0
	for range 60000 {
		m, n, load := wholeTwo(r, 3), wholeTwo(r, 3), wholeNumber(r, 3)
		all, ok := impl.SeenAt(cascade(t, m, n), load)
		behind, behindOk := impl.SeenAt(n, load)
		through, throughOk := impl.SeenAt(m, behind)
		if !ok || !behindOk || !throughOk || !impl.Near(all, 0, 10) || !impl.Near(through, 0, 10) {
			continue
		}
		told++
		if !impl.Near(all, through, 0.05) {
			t.Fatalf("%v, %v and %v: %v and %v", m, n, load, all, through)
		}
	}
	if told < 40000 {
		t.Error("told only", told)
	}
}

func TestP18WhatIsSeen(t *testing.T) {
	j := complex64(complex(0, 1))
	for _, c := range []struct {
		m          impl.Two
		load, want complex64
	}{
		{wire, complex(3, -4), complex(3, -4)},
		{wire, 0, 0},
		{impl.Two{A: -1, B: 2 * j, C: j, D: 1}, 1, complex(0.5, 1.5)},
		{series(t, complex(0, 2)), 3, complex(3, 2)},
		{part(t, impl.ShuntPart, 1), 1, 0.5},
		{part(t, impl.ShuntPart, -j), 2 * j, complex(0, 2.0/3)},
		{part(t, impl.TransformerPart, 2), 3, 12},
		{gyrator(t, 4), 8, 2},
		{impl.Two{A: 3, B: 5, C: 7, D: 2}, 0, 2.5},
		{impl.Two{A: 8, B: 4, C: 2}, 2, 5},
		{impl.Two{D: 2}, 1, 0},
	} {
		if got, ok := impl.SeenAt(c.m, c.load); !ok || got != c.want {
			t.Errorf("%v with %v: got %v %v, want %v", c.m, c.load, got, ok, c.want)
		}
	}
}

func TestP18LoadsThatAreNotSeen(t *testing.T) {
	for _, c := range []struct {
		m    impl.Two
		load complex64
	}{
		{impl.Two{A: 1, C: 1, D: -1}, 1},
		{impl.Two{A: 1, B: 1, C: complex(0, 1), D: 2}, complex(0, 2)},
		{gyrator(t, 1), 0},
		{impl.Two{}, 1},
		{impl.Two{A: 1, B: 1}, 5},
		{impl.Two{A: 1, B: 1, C: complex(minus0, minus0), D: complex(minus0, 0)}, 1},
		{impl.Two{A: 1, C: 1e-30}, 1e-30},
	} {
		got, ok := impl.SeenAt(c.m, c.load)
		expect(t, "with the second sum 0", got, ok, 0, false)
	}
	for _, c := range []struct {
		m    impl.Two
		load complex64
	}{
		{impl.Two{A: 1e30, D: 1}, 1e30},                                     // the product of A and the load
		{impl.Two{C: 1e30, D: 1}, 1e30},                                     // the product of C and the load
		{impl.Two{A: 1e30, C: 1e30}, 1e30},                                  // both
		{impl.Two{A: greatest, B: greatest, D: 1}, 1},                       // the first sum
		{impl.Two{A: 1, C: greatest, D: greatest}, 1},                       // the second sum
		{impl.Two{B: 1, C: complex(0, max32), D: greatest}, complex(1, -1)}, // one part of the second sum
		{impl.Two{B: 1e30, D: 1e-30}, 1},                                    // the quotient
	} {
		got, ok := impl.SeenAt(c.m, c.load)
		expect(t, "with a number that is too great", got, ok, 0, false)
	}
}

func TestP18NoChainsAndNoLoads(t *testing.T) {
	for _, broken := range brokenTwos() {
		for _, load := range []complex64{0, 1, complex(-2.5, 1e30)} {
			got, ok := impl.SeenAt(broken, load)
			expect(t, "of what is no matrix", got, ok, 0, false)
		}
	}
	for _, load := range brokenNumbers() {
		for _, m := range []impl.Two{wire, {}, {D: 1}, {B: 1, D: 1}, {B: 2, C: 0.5}, {A: 2, B: 1, C: 1, D: 1}} {
			got, ok := impl.SeenAt(m, load)
			expect(t, "with no load", got, ok, 0, false)
		}
	}
	if got, ok := impl.SeenAt(impl.Two{A: 1, B: complex(0, float32(math.Pi)), D: 1}, 1); !ok || got != complex(1, float32(math.Pi)) {
		t.Error(got, ok)
	}
}

func cascadeAsTold(m, n impl.Two) (impl.Two, bool) {
	w := &way{}
	w.matrix(m)
	w.matrix(n)
	sum := func(a, b, c, d complex64) complex64 { return w.plus(w.times(a, b), w.times(c, d)) }
	return w.end(impl.Two{A: sum(m.A, n.A, m.B, n.C), B: sum(m.A, n.B, m.B, n.D), C: sum(m.C, n.A, m.D, n.C), D: sum(m.C, n.B, m.D, n.D)})
}

func seenAsTold(m impl.Two, load complex64) (complex64, bool) {
	w := &way{}
	w.matrix(m)
	w.there(load)
	return w.number(w.by(w.plus(w.times(m.A, load), m.B), w.plus(w.times(m.C, load), m.D)))
}

// Chains are reckoned by Go's operators in the order told, down to the signs of zero.
func TestP16P17P18AreReckonedAsTold(t *testing.T) {
	list := append(wholeTwos(3), mixedTwos()...)
	loads := append(finiteNumbers(), brokenNumbers()...)
	r := chance()
	told := 0
	for i, m := range list {
		n := list[r.Intn(len(list))]
		got, ok := impl.Cascade(m, n)
		want, wantOk := cascadeAsTold(m, n)
		expectTwo(t, "Cascade", got, ok, want, wantOk)

		all, allOk := impl.ChainAll([]impl.Two{m, n})
		want, wantOk = cascadeAsTold(wire, m)
		if wantOk {
			want, wantOk = cascadeAsTold(want, n)
		}
		expectTwo(t, "ChainAll", all, allOk, want, wantOk)

		load := loads[(i*31)%len(loads)]
		z, zOk := impl.SeenAt(m, load)
		wantZ, wantZOk := seenAsTold(m, load)
		expect(t, "SeenAt", z, zOk, wantZ, wantZOk)
		if ok && allOk && zOk {
			told++
		}
	}
	if told < 3000 {
		t.Error("told only", told)
	}
}
