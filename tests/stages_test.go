package tests

import (
	"math"
	"math/rand"
	"slices"
	"testing"

	"loop.example/twoports/impl"
)

const (
	mostOfStage = 1000000
	leastGain   = math.SmallestNonzeroFloat64
)

// stage returns the stage with a noise and a gain.
func stage(noise, gain float64) impl.Stage {
	return impl.Stage{Noise: noise, Gain: gain}
}

var still = stage(1, 1)

// noStages are stages with a noise or a gain that no stage has.
func noStages() []impl.Stage {
	above := math.Nextafter(mostOfStage, math.Inf(1))
	var list []impl.Stage
	for _, noise := range []float64{math.Nextafter(1, 0), 0.5, 0, -1, -2, above, 2000000, math.MaxFloat64, math.Inf(1), math.Inf(-1), math.NaN()} {
		list = append(list, stage(noise, 1))
	}
	for _, gain := range []float64{0, math.Copysign(0, -1), -leastGain, -1, -4, above, 2000000, math.MaxFloat64, math.Inf(1), math.Inf(-1), math.NaN()} {
		list = append(list, stage(1, gain), stage(2, gain))
	}
	return append(list, impl.Stage{}, stage(math.NaN(), math.NaN()))
}

// anyNoise is at least 1, and at most 1000000.
func anyNoise(r *rand.Rand) float64 {
	some := []float64{1, math.Nextafter(1, 2), 1.5, 2, 3, 10, 999, math.Nextafter(mostOfStage, 0), mostOfStage}
	switch r.Intn(4) {
	case 0:
		return some[r.Intn(len(some))]
	case 1:
		return 1 + 999999*r.Float64()
	}
	return 1 + 9*r.Float64()
}

// anyGain is now and then so little that a few together are 0.
func anyGain(r *rand.Rand) float64 {
	some := []float64{leastGain, 1e-308, 1e-200, 1e-162, 1e-100, 0.5, 1, 2, 4, mostOfStage}
	switch r.Intn(4) {
	case 0:
		return some[r.Intn(len(some))]
	case 1:
		return 1000000 * (1 - r.Float64())
	}
	return 10 * (1 - r.Float64())
}

func stageLists() [][]impl.Stage {
	var lists [][]impl.Stage
	r := chance()
	for range 100000 {
		list := make([]impl.Stage, 1+r.Intn(impl.MaxStages))
		for i := range list {
			list[i] = stage(anyNoise(r), anyGain(r))
		}
		lists = append(lists, list)
	}
	return lists
}

// repeated returns so many of the same stage.
func repeated(s impl.Stage, count int) []impl.Stage {
	return slices.Repeat([]impl.Stage{s}, count)
}

func expectNoise(t *testing.T, list []impl.Stage, want float64, wantOk bool) {
	t.Helper()
	got, ok := impl.NoiseOf(list)
	expectFloat(t, list, got, ok, want, wantOk)
}

func TestP62StillStagesAreStages(t *testing.T) {
	if impl.MaxStages != 6 {
		t.Error("MaxStages is", impl.MaxStages)
	}
	for _, noise := range []float64{1, math.Nextafter(1, 2), 1.5, 2, 999999.5, math.Nextafter(mostOfStage, 0), mostOfStage} {
		for _, gain := range []float64{leastGain, 1e-300, 0.001, 0.5, 1, 2, math.Nextafter(mostOfStage, 0), mostOfStage} {
			if s := stage(noise, gain); !impl.StageOk(s) {
				t.Error("no stage:", s)
			}
		}
	}
	if !impl.StageOk(still) {
		t.Error("the still stage is none")
	}
	for _, s := range noStages() {
		if impl.StageOk(s) {
			t.Error("a stage:", s)
		}
	}
}

func TestP36ChainsAreAtLeastAsNoisyAsTheirFirstStage(t *testing.T) {
	told := 0
	for _, list := range stageLists() {
		noise, ok := impl.NoiseOf(list)
		if !ok {
			continue
		}
		told++
		if noise < list[0].Noise {
			t.Fatalf("%v: %v", list, noise)
		}
		if len(list) == 1 {
			continue
		}
		if shorter, ok := impl.NoiseOf(list[:len(list)-1]); !ok || shorter > noise {
			t.Fatalf("%v: %v, and without the last stage %v %v", list, noise, shorter, ok)
		}
	}
	if told < 70000 {
		t.Error("told only", told)
	}
}

func TestP36AStillStageAheadIsTheSame(t *testing.T) {
	gains := []float64{1, 2, 4, 0.5}
	r := chance()
	for range 50000 {
		list := make([]impl.Stage, 1+r.Intn(impl.MaxStages-1))
		for i := range list {
			list[i] = stage(anyNoise(r), gains[r.Intn(len(gains))])
		}
		noise, ok := impl.NoiseOf(list)
		if !ok {
			t.Fatal("not told:", list)
		}
		expectNoise(t, append([]impl.Stage{still}, list...), noise, true)
	}
}

func TestP36Noises(t *testing.T) {
	for _, c := range []struct {
		list []impl.Stage
		want float64
	}{
		{[]impl.Stage{still}, 1},
		{[]impl.Stage{stage(2, 4)}, 2},
		{[]impl.Stage{stage(mostOfStage, mostOfStage)}, mostOfStage},
		{[]impl.Stage{stage(1.5, leastGain)}, 1.5},
		{[]impl.Stage{stage(2, 4), stage(5, 1)}, 3},
		{[]impl.Stage{stage(5, 1), stage(2, 4)}, 6},
		{[]impl.Stage{stage(2, 1), stage(3, 1), stage(4, 0.5)}, 7},
		{[]impl.Stage{stage(1, 0.5), stage(2, 2), stage(3, 4), stage(5, 1)}, 6},
		{[]impl.Stage{stage(1, 4), stage(1, 4), stage(33, 1)}, 3},
		{[]impl.Stage{stage(3, 4), still, still, still, stage(9, 2), stage(9, 1)}, 6},
		{repeated(stage(2, 2), impl.MaxStages), 2.96875},
		{repeated(still, impl.MaxStages), 1},
		{repeated(stage(2, 1), impl.MaxStages), 7},
		{repeated(stage(mostOfStage, 1), impl.MaxStages), 5999995},
		{[]impl.Stage{stage(1, 0x1p10), stage(1+0x1p19, 1)}, 513},
	} {
		expectNoise(t, c.list, c.want, true)
	}
}

func TestP36TheGainOfTheLastStageIsNoMatter(t *testing.T) {
	r := chance()
	for _, list := range stageLists()[:20000] {
		noise, ok := impl.NoiseOf(list)
		other := slices.Clone(list)
		other[len(other)-1].Gain = anyGain(r)
		expectNoise(t, other, noise, ok)
	}
}

func TestP36NoisesThatBecomeTooGreat(t *testing.T) {
	for _, list := range [][]impl.Stage{
		{stage(1, leastGain), stage(2, 1)},
		{stage(1, leastGain), stage(mostOfStage, 1)},
		{stage(1, 1e-305), stage(mostOfStage, 1)},
		{stage(1, 1e-200), stage(1, 1e-110), stage(2, 1)},
		{stage(1, leastGain), stage(2, mostOfStage), still},                // not the last one
		{stage(1, 1e-302), stage(mostOfStage, 1), stage(mostOfStage, 1)},   // the sum alone
		{stage(1, 1e-302), stage(mostOfStage, 0.5), stage(mostOfStage, 1)}, // twice as much
	} {
		expectNoise(t, list, 0, false)
	}
	for _, list := range [][]impl.Stage{
		{stage(1, leastGain), still},
		{stage(2, leastGain), stage(1, 0.5)},
		{stage(1, 1e-302), stage(mostOfStage, 1)},
		{stage(1, 0x1p-1000), stage(2, 1)},
	} {
		want, wantOk := noiseAsTold(list)
		expectNoise(t, list, want, wantOk)
		if !wantOk {
			t.Error("not told:", list)
		}
	}
}

func TestP36ProductsOfGainsThatBecome0(t *testing.T) {
	for _, list := range [][]impl.Stage{
		{stage(1, 1e-200), stage(1, 1e-200), still}, // 0 by 0
		{stage(2, 1e-200), stage(1, 1e-200), stage(2, 1)},
		{stage(1, leastGain), stage(1, 0.5), still},
		{stage(1, 1e-200), stage(1, 1e-200), stage(1, mostOfStage), still},
		{stage(1, 1e-100), stage(1, 1e-100), stage(1, 1e-100), stage(1, 1e-100), still, still},
	} {
		expectNoise(t, list, 0, false)
		expectNoise(t, list[:2], list[0].Noise, true)
	}
	// From the last one on this product would be 0.
	expectNoise(t, []impl.Stage{stage(3, mostOfStage), stage(1, 1e-200), stage(1, 1e-128), still}, 3, true)
	expectNoise(t, []impl.Stage{stage(3, 2), stage(1, leastGain), stage(1, 0.5), still}, 3, true)
	// The gain of the last stage would make this one 0, but nothing is divided by it.
	expectNoise(t, []impl.Stage{stage(3, 1e-200), still, stage(1, 1e-200)}, 3, true)
}

// With the greatest gains and noises everything is told.
func TestP36TheGreatestGains(t *testing.T) {
	greatestStages := repeated(stage(mostOfStage, mostOfStage), impl.MaxStages)
	for count := range greatestStages {
		list := greatestStages[:1+count]
		want, wantOk := noiseAsTold(list)
		expectNoise(t, list, want, wantOk)
		if !wantOk || want > mostOfStage+1.01 {
			t.Error(list, want, wantOk)
		}
	}
}

func TestP36ListsThatAreNoChains(t *testing.T) {
	expectNoise(t, nil, 0, false)
	expectNoise(t, []impl.Stage{}, 0, false)
	for _, count := range []int{7, 8, 9, 12, 1000} {
		expectNoise(t, repeated(still, count), 0, false)
		expectNoise(t, repeated(stage(2, 4), count), 0, false)
	}
	for count := 1; count <= impl.MaxStages; count++ {
		expectNoise(t, repeated(still, count), 1, true)
		for i := range count {
			for _, none := range noStages() {
				list := repeated(stage(2, 4), count)
				list[i] = none
				expectNoise(t, list, 0, false)
			}
		}
	}
}

func TestP36StagesAreLeftAsTheyWere(t *testing.T) {
	for _, list := range stageLists()[:1000] {
		before := slices.Clone(list)
		first, firstOk := impl.NoiseOf(list)
		expectNoise(t, list, first, firstOk)
		if !slices.Equal(list, before) {
			t.Fatalf("%v was %v", list, before)
		}
	}
}

// noiseAsTold makes the product of the gains before anew for each stage.
func noiseAsTold(list []impl.Stage) (float64, bool) {
	noise := list[0].Noise
	for i := 1; i < len(list); i++ {
		product := list[0].Gain
		for _, before := range list[1:i] {
			product = float64(product * before.Gain)
		}
		if product == 0 {
			return 0, false
		}
		noise = float64(noise + float64(float64(list[i].Noise-1)/product))
	}
	return floatIfFinite(noise)
}

func TestP36IsReckonedAsTold(t *testing.T) {
	told := map[bool]int{}
	for _, list := range stageLists() {
		want, wantOk := noiseAsTold(list)
		expectNoise(t, list, want, wantOk)
		told[wantOk]++
	}
	if told[true] < 70000 || told[false] < 4000 {
		t.Error("told only", told)
	}
}

func TestP37IfItHoldsItDoesNotTheOtherWayRound(t *testing.T) {
	r := chance()
	held, neither := 0, 0
	for range 200000 {
		a := stage(anyNoise(r), anyGain(r))
		b := stage(anyNoise(r), anyGain(r))
		first, second := impl.FirstBetter(a, b), impl.FirstBetter(b, a)
		if first && second {
			t.Fatalf("%v and %v", a, b)
		}
		if first {
			held++
		} else if !second {
			neither++
		}
	}
	if held < 80000 || neither < 5000 {
		t.Error("held only", held, neither)
	}
}

func TestP37OfTheSameGainTheStillOneIsFirst(t *testing.T) {
	for _, gain := range []float64{2, 4} {
		for first := 4; first <= 4000; first += 1 + first/50 {
			a := stage(float64(first)/4, gain)
			for second := 4; second <= 4000; second++ {
				b := stage(float64(second)/4, gain)
				if got := impl.FirstBetter(a, b); got != (first < second) {
					t.Fatalf("%v and %v: %v", a, b, got)
				}
			}
		}
	}
}

func TestP37TheBetterOne(t *testing.T) {
	for _, c := range []struct{ better, worse impl.Stage }{
		{stage(2, 4), stage(5, 4)},
		{stage(3, 100), stage(2, 1.25)}, // much gain is more than less noise
		{stage(2, 100), stage(2, 10)},
		{stage(1, 2), stage(1.25, mostOfStage)},
		{stage(5, 0.5), stage(2, 0.5)}, // what makes less is better last
		{stage(2, 1), stage(2, 0.5)},
		{stage(mostOfStage, mostOfStage), stage(mostOfStage, 1)},
	} {
		if !impl.FirstBetter(c.better, c.worse) || impl.FirstBetter(c.worse, c.better) {
			t.Errorf("%v is not better first than %v", c.better, c.worse)
		}
	}
}

func TestP37NeitherIsBetterFirst(t *testing.T) {
	expectNeither := func(a, b impl.Stage) {
		t.Helper()
		if impl.FirstBetter(a, b) || impl.FirstBetter(b, a) {
			t.Errorf("%v and %v: one is better first", a, b)
		}
	}
	for _, s := range []impl.Stage{still, stage(2, 4), stage(1.1, 0.3), stage(mostOfStage, mostOfStage), stage(1, leastGain), stage(2, leastGain)} {
		expectNeither(s, s)
	}
	expectNeither(stage(2, 1), stage(5, 1)) // without a gain the noises are added
	expectNeither(stage(2, 2), stage(2.5, 4))
	expectNeither(stage(1, 2), stage(1, 4)) // both are still
	// One way round it is not told, though the other way round it is.
	expectNeither(stage(mostOfStage, 1), stage(1, leastGain))
	expectNeither(stage(2, 4), stage(1.5, leastGain))
	for _, none := range noStages() {
		for _, s := range []impl.Stage{still, stage(2, 4), stage(mostOfStage, 0.5), none} {
			expectNeither(none, s)
		}
	}
}

func TestP37IsReckonedAsTold(t *testing.T) {
	r := chance()
	for range 200000 {
		a := stage(anyNoise(r), anyGain(r))
		b := stage(anyNoise(r), anyGain(r))
		first, firstOk := noiseAsTold([]impl.Stage{a, b})
		second, secondOk := noiseAsTold([]impl.Stage{b, a})
		if got := impl.FirstBetter(a, b); got != (firstOk && secondOk && first < second) {
			t.Fatalf("%v and %v: %v, though there are %v %v and %v %v", a, b, got, first, firstOk, second, secondOk)
		}
	}
}
