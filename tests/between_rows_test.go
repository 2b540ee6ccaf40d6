package tests

import (
	"math"
	"slices"
	"testing"

	"loop.example/twoports/impl"
)

// expectAt reports a scattering of a table at a frequency that is not the one wanted.
func expectAt(t *testing.T, table []impl.Row, frequency int, want impl.Two, wantOk bool) {
	t.Helper()
	got, ok := impl.ScatteringAt(table, frequency)
	if ok != wantOk || !sameTwo(got, want) {
		t.Errorf("%v at %d: got %v %v, want %v %v", table, frequency, got, ok, want, wantOk)
	}
}

// frequenciesOf returns frequencies on, beside and between all rows, and outside of the table.
func frequenciesOf(table []impl.Row) []int {
	list := []int{math.MinInt, -1, 0, impl.MaxFrequency, impl.MaxFrequency + 1, math.MaxInt}
	for i, r := range table {
		list = append(list, r.Frequency-1, r.Frequency, r.Frequency+1)
		if i > 0 {
			below, step := table[i-1].Frequency, r.Frequency-table[i-1].Frequency
			list = append(list, below+step/2, below+step/3, below+step*9/10)
		}
	}
	return list
}

// atAsTold reckons the scattering of a table again, operator by operator.
func atAsTold(table []impl.Row, frequency int) (impl.Two, bool) {
	for i, upper := range table {
		if upper.Frequency == frequency {
			return upper.Over, true
		}
		if i == 0 || frequency < table[i-1].Frequency || frequency > upper.Frequency {
			continue
		}
		lower := table[i-1]
		way := float32(frequency - lower.Frequency)
		t := way / float32(upper.Frequency-lower.Frequency)
		var told impl.Two
		for which := range columnCount {
			from, to := *numberAt(&lower.Over, which), *numberAt(&upper.Over, which)
			difference := complex64(to - from)
			product := complex64(difference * complex(t, 0))
			for _, z := range []complex64{difference, product, complex64(from + product)} {
				if _, ok := thereIfFinite(z); !ok {
					return noTwo, false
				}
			}
			*numberAt(&told, which) = complex64(from + product)
		}
		return told, true
	}
	return noTwo, false
}

func TestP39OnARowItIsTheRow(t *testing.T) {
	for _, table := range tables(4000) {
		for _, r := range table {
			expectAt(t, table, r.Frequency, r.Over, true)
		}
	}
	zero := impl.Two{A: complex(minus0, 0), B: complex(0, minus0), C: complex(minus0, minus0), D: 0}
	for _, table := range [][]impl.Row{
		{{Frequency: 0, Over: zero}},
		{{Frequency: 0, Over: zero}, {Frequency: impl.MaxFrequency, Over: zero}},
		{row(0, 1, 1, 1, 1), {Frequency: 7, Over: zero}, row(8, greatest, 1, 1, -greatest)},
	} {
		for _, r := range table {
			expectAt(t, table, r.Frequency, r.Over, true)
		}
	}
}

func TestP39OutsideOfTheTableThereIsNone(t *testing.T) {
	for _, table := range append(tables(2000), rowsAt(0), rowsAt(impl.MaxFrequency), rowsAt(100), rowsAt(0, impl.MaxFrequency), rowsAt(5, 6)) {
		first, last := table[0].Frequency, table[len(table)-1].Frequency
		for _, frequency := range []int{first - 1, last + 1, first - 1000, last + 1000, -1, impl.MaxFrequency + 1, math.MinInt, math.MaxInt} {
			expectAt(t, table, frequency, noTwo, false)
		}
	}
}

func TestP39TablesOfOneRow(t *testing.T) {
	for _, at := range []int{0, 1, 100, impl.MaxFrequency - 1, impl.MaxFrequency} {
		table := rowsAt(at)
		for _, frequency := range []int{0, 1, 2, 50, 99, 100, 101, impl.MaxFrequency - 1, impl.MaxFrequency} {
			if frequency == at {
				expectAt(t, table, frequency, table[0].Over, true)
			} else {
				expectAt(t, table, frequency, noTwo, false)
			}
		}
	}
}

func TestP39BetweenTheSameNumbersItIsThese(t *testing.T) {
	parts := []float32{-1000, -999, -1, minus0, 0, 1, 3, 517, 1000}
	numbers := pairs(parts)
	for i, z := range numbers {
		m := impl.Two{A: z, B: numbers[(i+1)%len(numbers)], C: numbers[(i+31)%len(numbers)], D: numbers[len(numbers)-1-i]}
		for _, both := range [][2]int{{0, 2}, {0, impl.MaxFrequency}, {100, 200}, {impl.MaxFrequency - 3, impl.MaxFrequency}} {
			table := []impl.Row{{Frequency: both[0], Over: m}, {Frequency: both[1], Over: m}}
			for _, frequency := range []int{both[0] + 1, (both[0] + both[1]) / 2, both[1] - 1} {
				// By ==, as 0 may be added to -0.
				if got, ok := impl.ScatteringAt(table, frequency); !ok || got != m {
					t.Fatalf("%v at %d: got %v %v", table, frequency, got, ok)
				}
			}
		}
	}
}

func TestP39BetweenTwoRowsItIsAStraightLine(t *testing.T) {
	table := []impl.Row{
		row(0, 0, 1, complex(0, -4), 8),
		row(4, 4, 3, complex(8, 4), complex(-8, 16)),
		row(5, 100, 0, 0, 0),
		row(8, 1, complex(0, 3), -3, 0),
		row(impl.MaxFrequency, 1, complex(0, 3), -3, 0),
	}
	for _, c := range []struct {
		frequency int
		want      impl.Two
	}{
		{1, impl.Two{A: 1, B: 1.5, C: complex(2, -2), D: complex(4, 4)}},
		{2, impl.Two{A: 2, B: 2, C: complex(4, 0), D: complex(0, 8)}},
		{3, impl.Two{A: 3, B: 2.5, C: complex(6, 2), D: complex(-4, 12)}},
		{4, table[1].Over},
		{5, table[2].Over},
		{6, impl.Two{A: 67, B: complex(0, 1), C: -1}},
		{7, impl.Two{A: 34, B: complex(0, 2), C: -2}},
		{9, table[3].Over},
		{impl.MaxFrequency - 1, table[3].Over},
	} {
		expectAt(t, table, c.frequency, c.want, true)
	}
}

// The quotient is a float32: of the third, the tenth and the most of a way these are the ones.
func TestP39TheWayIsAFloat32(t *testing.T) {
	for _, c := range []struct {
		frequency, last int
		want            float32
	}{
		{1, 3, 0.33333334}, {2, 3, 0.6666667}, {1, 10, 0.1}, {3, 7, 0.42857143},
		{1, impl.MaxFrequency, 1.0000001e-07}, {impl.MaxFrequency - 1, impl.MaxFrequency, 0.9999999},
	} {
		table := []impl.Row{row(0, 0, 0, 0, 0), row(c.last, 1, 1i, -1, complex(1, 1))}
		want := impl.Two{A: complex(c.want, 0), B: complex(0, c.want), C: complex(-c.want, 0), D: complex(c.want, c.want)}
		expectAt(t, table, c.frequency, want, true)
	}
}

func TestP39RowsNextToEachOther(t *testing.T) {
	table := rowsAt(0, 1, 2, 3, 4, 5, 6, 7)
	for i, r := range table {
		expectAt(t, table, i, r.Over, true)
	}
	expectAt(t, table, 8, noTwo, false)
	expectAt(t, rowsAt(impl.MaxFrequency-1, impl.MaxFrequency), impl.MaxFrequency-1, rowsAt(0)[0].Over, true)
}

func TestP39DifferencesThatBecomeTooGreat(t *testing.T) {
	for which := range columnCount {
		for _, great := range []complex64{greatest, -greatest, complex(0, max32), complex(1, -max32), complex(max32, max32), complex(3e38, 0)} {
			table := rowsAt(0, 10, 20, 30)
			*numberAt(&table[1].Over, which) = great
			*numberAt(&table[2].Over, which) = -great
			for _, frequency := range []int{11, 15, 19} {
				expectAt(t, table, frequency, noTwo, false)
			}
			for _, frequency := range []int{0, 1, 9, 10, 20, 21, 29, 30} {
				want, wantOk := atAsTold(table, frequency)
				expectAt(t, table, frequency, want, wantOk)
				if !wantOk {
					t.Errorf("%v at %d is not told", table, frequency)
				}
			}
		}
	}
}

// What is added is never more than the difference, so with the greatest differences everything is told.
func TestP39TheGreatestDifferences(t *testing.T) {
	half := max32 / 2
	for _, table := range [][]impl.Row{
		{row(0, 0, greatest, -greatest, complex(half, -half)), row(impl.MaxFrequency, greatest, 0, 0, complex(-half, half))},
		{row(0, greatest, greatest, complex(max32, max32), 1), row(impl.MaxFrequency, greatest, 1, complex(0, max32), -greatest)},
	} {
		for _, frequency := range frequenciesOf(table) {
			if frequency < 0 || frequency > impl.MaxFrequency {
				continue
			}
			want, wantOk := atAsTold(table, frequency)
			expectAt(t, table, frequency, want, wantOk)
			if !wantOk {
				t.Errorf("%v at %d is not told", table, frequency)
			}
		}
	}
}

func TestP39IsReckonedAsTold(t *testing.T) {
	told := map[bool]int{}
	for _, table := range tables(8000) {
		for _, frequency := range frequenciesOf(table) {
			want, wantOk := atAsTold(table, frequency)
			expectAt(t, table, frequency, want, wantOk)
			told[wantOk]++
		}
		if t.Failed() {
			return
		}
	}
	r := chance()
	for i := range 8000 {
		number := func() complex64 { return complex(2*r.Float32()-1, 20*r.Float32()-10) }
		table := anyTable(r, 1+i%impl.MaxRows, number)
		for _, frequency := range frequenciesOf(table) {
			want, wantOk := atAsTold(table, frequency)
			expectAt(t, table, frequency, want, wantOk)
		}
		if t.Failed() {
			return
		}
	}
	if told[true] < 50000 || told[false] < 50000 {
		t.Error("told only", told)
	}
}

func TestP39ListsThatAreNoTables(t *testing.T) {
	for _, table := range noTables() {
		for _, frequency := range frequenciesOf(table) {
			expectAt(t, table, frequency, noTwo, false)
		}
		if t.Failed() {
			return
		}
	}
}

func TestP39TablesAreLeftAsTheyWere(t *testing.T) {
	for _, table := range tables(500) {
		before := slices.Clone(table)
		for _, frequency := range frequenciesOf(table) {
			first, firstOk := impl.ScatteringAt(table, frequency)
			expectAt(t, table, frequency, first, firstOk)
		}
		if !sameTable(table, before) {
			t.Fatalf("%v was %v", table, before)
		}
	}
}
