package tests

import (
	"slices"
	"testing"

	"loop.example/twoports/impl"
)

func sameList(a, b []complex64) bool {
	return slices.EqualFunc(a, b, same)
}

// allAsTold sets each number right by itself.
func allAsTold(measured []complex64) ([]complex64, bool) {
	if len(measured) < 3 || len(measured) > 8 {
		return nil, false
	}
	e, ok := errorsAsTold(three{one: measured[0], negative: measured[1], none: measured[2]})
	if !ok {
		return nil, false
	}
	var list []complex64
	for _, number := range measured {
		g, ok := setRightAsTold(e, number)
		if !ok {
			return nil, false
		}
		list = append(list, g)
	}
	return list, true
}

// expectAll reports what is set right if it is not what is wanted.
func expectAll(t *testing.T, measured, want []complex64, wantOk bool) {
	t.Helper()
	got, ok := impl.AllSetRight(measured)
	if ok != wantOk || !sameList(got, want) || !ok && got != nil {
		t.Errorf("%v: got %v %v, want %v %v", measured, got, ok, want, wantOk)
	}
}

// measuredLists returns lists of three numbers and more, up to MaxRows, of which the first three are those of 1, -1 and 0.
func measuredLists(t *testing.T) [][]complex64 {
	t.Helper()
	r := chance()
	reflections := quarters(1)
	var lists [][]complex64
	for i, e := range instruments() {
		list := make([]complex64, 3+i%(impl.MaxRows-2))
		for which := range list {
			g := reflections[r.Intn(len(reflections))]
			if which < 3 {
				g = []complex64{1, -1, 0}[which]
			}
			measured, ok := impl.MeasuredAs(e, g)
			if !ok {
				t.Fatal("nothing is measured of", g, "by", e)
			}
			list[which] = measured
		}
		lists = append(lists, list)
	}
	return lists
}

func TestP46AllAreSetRightAtOnce(t *testing.T) {
	for _, measured := range measuredLists(t) {
		e, ok := impl.ErrorsFrom(measured[0], measured[1], measured[2])
		if !ok {
			t.Fatal("no errors from", measured)
		}
		var want []complex64
		for _, number := range measured {
			right, ok := impl.SetRight(e, number)
			if !ok {
				t.Fatal("not set right:", number, "of", measured)
			}
			want = append(want, right)
		}
		expectAll(t, measured, want, true)
		if want[2] != 0 || !impl.Near(want[0], 1, 0.001) || !impl.Near(want[1], -1, 0.001) {
			t.Errorf("%v: got %v", measured, want)
		}
	}
}

func TestP46ThreeToMaxRowsNumbers(t *testing.T) {
	all := []complex64{4, -2, 1, 2.5, complex(1, 3), complex(-2, -3), 1, 31, 4, -2}
	right := []complex64{1, -1, 0, 0.5, j, complex(-1, -1), 0, 10, 1, -1}
	for count := range all {
		measured := all[:count:count]
		if count < 3 || count > impl.MaxRows {
			expectAll(t, measured, nil, false)
			continue
		}
		got, ok := impl.AllSetRight(measured)
		if !ok || len(got) != count {
			t.Fatalf("%v: got %v %v", measured, got, ok)
		}
		for i, g := range got {
			if !impl.Near(g, right[i], 1e-6) {
				t.Errorf("%v: got %v, want %v", measured, got, right[:count])
			}
		}
	}
	expectAll(t, nil, nil, false)
	expectAll(t, []complex64{}, nil, false)
	for _, count := range []int{8, 9, 10, 100, 1000} {
		measured := append([]complex64{4, -2, 1}, make([]complex64, count-3)...)
		if got, ok := impl.AllSetRight(measured); ok != (count <= 8) || !ok && got != nil {
			t.Errorf("%d numbers: got %v %v", count, got, ok)
		}
	}
}

// One number that is not told is enough, while all others are.
func TestP46OneNumberThatIsNotTold(t *testing.T) {
	// The errors are Leak 5, Again 0.5 and Lost 1.5.
	good := []complex64{8, 4, 5, 7, complex(1, 1), 6, -3, 2.5 * j}
	// For this number the sum of Lost, and the product of Again and the difference, is 0.
	const lost = 2
	bad := append(brokenNumbers(), lost)
	for count := 3; count <= impl.MaxRows; count++ {
		want, ok := allAsTold(good[:count])
		expectAll(t, good[:count], want, true)
		if !ok {
			t.Fatal("not told:", good[:count])
		}
		for which := range count {
			for _, number := range bad {
				// One of the first three numbers changes the errors, too.
				if which < 3 && number == lost {
					continue
				}
				measured := slices.Clone(good[:count])
				measured[which] = number
				expectAll(t, measured, nil, false)
			}
		}
	}
}

func TestP46NumbersThatAreTooGreat(t *testing.T) {
	for _, c := range []struct {
		measured []complex64
		last     complex64
	}{
		{[]complex64{-1e38, -3e38, -2e38}, 2e38},                         // the difference
		{[]complex64{3, 1, 0}, 3e38},                                     // the product with Again, which is 2
		{[]complex64{1e30, complex(1e30, 1e23), 0}, 1e35},                // the product again
		{[]complex64{1e-10, -1e-10, 0}, 1e30},                            // the quotient
		{[]complex64{complex(0, 1e-5), complex(0, -1e-5), 0}, -greatest}, // the quotient again
	} {
		want, ok := allAsTold(c.measured)
		expectAll(t, c.measured, want, true)
		if !ok {
			t.Error("not told:", c.measured)
		}
		expectAll(t, append(c.measured, c.last), nil, false)
		expectAll(t, append(c.measured, c.measured[0], c.last, c.measured[1]), nil, false)
	}
}

func TestP46ErrorsThatAreNotTold(t *testing.T) {
	for _, first := range []three{
		{4, 4, 1}, {1, 1, 1}, {0, 0, 0}, // the difference is 0
		{4, 1, 1}, // -1 is measured as 0, so of both nothing is told
		{1, 4, 1}, // 1 is measured as 0
		{3e38, 0, -3e38},
		{3e38, -3e38, 0},
		{1e36, 1.000001e36, 0},
	} {
		for count := 3; count <= impl.MaxRows+1; count++ {
			measured := []complex64{first.one, first.negative, first.none, 7, 8, 9, 10, complex(1, 1), 12}
			expectAll(t, measured[:count], nil, false)
		}
	}
}

func TestP46IsReckonedAsTold(t *testing.T) {
	told := map[bool]int{}
	r := chance()
	for _, numbers := range [][]complex64{mixedNumbers(), finiteNumbers(), wholeNumbers(-10, -3, -1, -0.1, minus0, 0, 0.25, 2.5)} {
		for range 50000 {
			measured := make([]complex64, r.Intn(10))
			for i := range measured {
				measured[i] = numbers[r.Intn(len(numbers))]
			}
			want, wantOk := allAsTold(measured)
			expectAll(t, measured, want, wantOk)
			told[wantOk]++
			if t.Failed() {
				return
			}
		}
	}
	if told[true] < 20000 || told[false] < 50000 {
		t.Error("told only", told)
	}
}

func TestP46ListsAreNewMemory(t *testing.T) {
	for _, measured := range measuredLists(t) {
		// There is room behind the list, which is not to be written to.
		room := append(slices.Clone(measured), 77, 78, 79)
		before := slices.Clone(room)
		first, _ := impl.AllSetRight(room[:len(measured)])
		second, _ := impl.AllSetRight(room[:len(measured)])
		kept := slices.Clone(second)
		whole := first[:cap(first)]
		for i := range whole {
			whole[i] = 99
		}
		if !sameList(room, before) || !sameList(second, kept) {
			t.Fatalf("%v was %v, and %v was %v", room, before, second, kept)
		}
		clear(room)
		if !sameList(second, kept) {
			t.Fatalf("%v was %v", second, kept)
		}
	}
}
