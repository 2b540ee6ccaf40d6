package tests

import (
	"math"
	"math/rand"
	"slices"
	"testing"

	"loop.example/twoports/impl"
)

const columnCount = 4

// row returns the row with a frequency and the four numbers of a scattering.
func row(frequency int, a, b, c, d complex64) impl.Row {
	return impl.Row{Frequency: frequency, Over: impl.Two{A: a, B: b, C: c, D: d}}
}

// numberAt returns a number of a matrix, and where it is, for 0 to 3.
func numberAt(m *impl.Two, which int) *complex64 {
	return []*complex64{&m.A, &m.B, &m.C, &m.D}[which]
}

// anyFrequencies returns so many frequencies in ascending order, now and then the least and the greatest ones, and next to each other.
func anyFrequencies(r *rand.Rand, count int) []int {
	most := []int{impl.MaxRows, 12, 1000, impl.MaxFrequency}[r.Intn(4)]
	taken := map[int]bool{}
	var list []int
	for len(list) < count {
		frequency := r.Intn(most + 1)
		if r.Intn(3) == 0 {
			frequency = []int{0, 1, most - 1, most, impl.MaxFrequency}[r.Intn(5)]
		}
		if !taken[frequency] {
			taken[frequency] = true
			list = append(list, frequency)
		}
	}
	slices.Sort(list)
	return list
}

// anyTable returns a table of so many rows, whose numbers come from a function.
func anyTable(r *rand.Rand, count int, number func() complex64) []impl.Row {
	var table []impl.Row
	for _, frequency := range anyFrequencies(r, count) {
		table = append(table, row(frequency, number(), number(), number(), number()))
	}
	return table
}

// tables returns many tables of all kinds of finite numbers, of one row up to MaxRows rows.
func tables(count int) [][]impl.Row {
	numbers := finiteNumbers()
	r := chance()
	var list [][]impl.Row
	for i := range count {
		list = append(list, anyTable(r, 1+i%impl.MaxRows, func() complex64 { return numbers[r.Intn(len(numbers))] }))
	}
	return list
}

// rowsAt returns a table with these frequencies, whatever they are, and whole numbers that are all different.
func rowsAt(frequencies ...int) []impl.Row {
	var list []impl.Row
	for i, frequency := range frequencies {
		n := float32(10 * (i + 1))
		list = append(list, row(frequency, complex(n, 1), complex(n+1, -2), complex(-n, n), complex(0, n+2)))
	}
	return list
}

// noTables returns lists of rows that are no tables.
func noTables() [][]impl.Row {
	list := [][]impl.Row{
		nil, {},
		rowsAt(-1), rowsAt(-impl.MaxFrequency), rowsAt(math.MinInt),
		rowsAt(impl.MaxFrequency + 1), rowsAt(math.MaxInt),
		rowsAt(-1, 0), rowsAt(-2, -1), rowsAt(math.MinInt, 5), rowsAt(0, -1),
		rowsAt(0, impl.MaxFrequency+1), rowsAt(impl.MaxFrequency, impl.MaxFrequency+1), rowsAt(1, 2, math.MaxInt),
		rowsAt(0, 0), rowsAt(5, 5), rowsAt(impl.MaxFrequency, impl.MaxFrequency), rowsAt(1, 2, 2), rowsAt(1, 1, 2),
		rowsAt(1, 0), rowsAt(200, 100), rowsAt(1, 3, 2), rowsAt(2, 1, 3), rowsAt(3, 2, 1), rowsAt(1, 2, 1), rowsAt(1, 2, 3, 4, 5, 6, 8, 7),
		rowsAt(0, 1, 2, 3, 4, 5, 6, 7, 8), rowsAt(0, 1, 2, 3, 4, 5, 6, 7, 8, 9), make([]impl.Row, 2), make([]impl.Row, impl.MaxRows+1),
	}
	var long []int
	for i := range 1000 {
		long = append(long, i)
	}
	return append(append(list, rowsAt(long...)), brokenTables()...)
}

// brokenTables returns lists of rows that are no tables as exactly one number has a part that is infinite or NaN.
func brokenTables() [][]impl.Row {
	var list [][]impl.Row
	for _, frequencies := range [][]int{{100}, {0, 7, impl.MaxFrequency}, {1, 2, 3, 4, 5, 6, 7, 8}} {
		for i := range frequencies {
			for which := range columnCount {
				for _, broken := range brokenNumbers() {
					table := rowsAt(frequencies...)
					*numberAt(&table[i].Over, which) = broken
					list = append(list, table)
				}
			}
		}
	}
	return list
}

// sameTable compares numbers by the parts and their signs of zero, as == does not.
func sameTable(a, b []impl.Row) bool {
	return slices.EqualFunc(a, b, func(x, y impl.Row) bool {
		return x.Frequency == y.Frequency && sameTwo(x.Over, y.Over)
	})
}

func sameNumbers(a, b []complex64) bool {
	return slices.EqualFunc(a, b, same)
}

// inColumns returns the frequencies and the four columns of a table.
func inColumns(table []impl.Row) ([]int, [columnCount][]complex64) {
	var frequencies []int
	var columns [columnCount][]complex64
	for _, r := range table {
		frequencies = append(frequencies, r.Frequency)
		for which := range columns {
			columns[which] = append(columns[which], *numberAt(&r.Over, which))
		}
	}
	return frequencies, columns
}

func tableFrom(frequencies []int, columns [columnCount][]complex64) ([]impl.Row, bool) {
	return impl.TableFrom(frequencies, columns[0], columns[1], columns[2], columns[3])
}

// expectTable reports a table and a bool that are not the ones wanted; beside false there must be no rows.
func expectTable(t *testing.T, what any, got []impl.Row, ok bool, want []impl.Row, wantOk bool) {
	t.Helper()
	if ok != wantOk || !sameTable(got, want) {
		t.Errorf("%v: got %v %v, want %v %v", what, got, ok, want, wantOk)
	}
}

func expectNoColumns(t *testing.T, frequencies []int, columns [columnCount][]complex64) {
	t.Helper()
	got, ok := tableFrom(frequencies, columns)
	expectTable(t, [2]any{frequencies, columns}, got, ok, nil, false)
}

func TestP63TheGreatestTables(t *testing.T) {
	if impl.MaxRows != 8 || impl.MaxFrequency != 9999999 {
		t.Error("MaxRows and MaxFrequency are", impl.MaxRows, impl.MaxFrequency)
	}
	for _, table := range [][]impl.Row{
		rowsAt(0), rowsAt(1), rowsAt(100), rowsAt(impl.MaxFrequency - 1), rowsAt(impl.MaxFrequency), make([]impl.Row, 1),
		rowsAt(0, 1), rowsAt(0, impl.MaxFrequency), rowsAt(impl.MaxFrequency-1, impl.MaxFrequency), rowsAt(100, 200),
		rowsAt(0, 1, 2, 3, 4, 5, 6, 7), rowsAt(0, 1, 10, 100, 1000, 10000, 100000, impl.MaxFrequency),
		{row(3, greatest, -greatest, least, complex(0, max32))},
		{row(3, 1, 2, 3, 4), row(4, 1, 2, 3, 4)}, // only frequencies are there once
	} {
		if !impl.TableOk(table) {
			t.Error("no table:", table)
		}
	}
}

func TestP63TablesCanLoseRows(t *testing.T) {
	for _, table := range tables(4000) {
		for count := len(table); count >= 1; count-- {
			if !impl.TableOk(table[:count]) {
				t.Fatalf("no table: %v", table[:count])
			}
			if !impl.TableOk(table[len(table)-count:]) {
				t.Fatalf("no table: %v", table[len(table)-count:])
			}
		}
		if impl.TableOk(table[:0]) {
			t.Fatal("a table without rows")
		}
	}
}

func TestP63ListsThatAreNoTables(t *testing.T) {
	for _, table := range noTables() {
		if impl.TableOk(table) {
			t.Errorf("a table: %v", table)
		}
	}
}

func TestP64ColumnsAreAsLongAsTables(t *testing.T) {
	for _, table := range tables(2000) {
		_, columns := inColumns(table)
		for which, want := range columns {
			got := impl.ColumnOf(table, which)
			if len(got) != len(table) || !sameNumbers(got, want) {
				t.Fatalf("%v: column %d is %v", table, which, got)
			}
		}
	}
	table := []impl.Row{row(0, 1, 2i, -3, 4), row(9, complex(minus0, 0), 6, 7, complex(8, minus0)), row(10, 9, 10, 11, 12)}
	for which, want := range [][]complex64{{1, complex(minus0, 0), 9}, {2i, 6, 10}, {-3, 7, 11}, {4, complex(8, minus0), 12}} {
		if got := impl.ColumnOf(table, which); !sameNumbers(got, want) {
			t.Errorf("column %d is %v, want %v", which, got, want)
		}
	}
}

func TestP64ColumnsThatAreNotThere(t *testing.T) {
	for _, table := range [][]impl.Row{rowsAt(100), rowsAt(1, 2, 3, 4, 5), rowsAt(1, 2, 3, 4, 5, 6, 7, 8)} {
		for _, which := range []int{-1, -2, -4, 4, 5, 8, math.MinInt, math.MaxInt} {
			if got := impl.ColumnOf(table, which); len(got) != 0 {
				t.Errorf("%v: column %d is %v", table, which, got)
			}
		}
	}
	for _, table := range noTables() {
		for which := range columnCount {
			if got := impl.ColumnOf(table, which); len(got) != 0 {
				t.Errorf("%v: column %d is %v", table, which, got)
			}
		}
	}
}

func TestP64ColumnsAreNewMemory(t *testing.T) {
	for count := 1; count <= impl.MaxRows; count++ {
		table := rowsAt(1, 2, 3, 4, 5, 6, 7, 8)[:count]
		before := slices.Clone(table)
		for which := range columnCount {
			first := impl.ColumnOf(table, which)
			second := impl.ColumnOf(table, which)
			want := slices.Clone(second)
			for i := range first[:cap(first)] {
				first[:cap(first)][i] = 99
			}
			if !sameNumbers(second, want) || !sameTable(table, before) {
				t.Fatalf("column %d of %d rows is not new", which, count)
			}
		}
	}
}

func TestP38ColumnsMakeTheTable(t *testing.T) {
	for _, table := range tables(4000) {
		frequencies, columns := inColumns(table)
		got, ok := tableFrom(frequencies, columns)
		if !ok || !sameTable(got, table) {
			t.Fatalf("got %v %v, want %v", got, ok, table)
		}
		for which, column := range columns {
			if back := impl.ColumnOf(got, which); !sameNumbers(back, column) {
				t.Fatalf("column %d of %v is %v, want %v", which, table, back, column)
			}
		}
	}
	got, ok := impl.TableFrom([]int{0, impl.MaxFrequency}, []complex64{1, 2}, []complex64{3i, 4}, []complex64{-5, 6}, []complex64{7, complex(8, minus0)})
	expectTable(t, "four columns", got, ok, []impl.Row{row(0, 1, 3i, -5, 7), row(impl.MaxFrequency, 2, 4, 6, complex(8, minus0))}, true)
}

func TestP38ColumnsOfOtherLengths(t *testing.T) {
	for _, table := range [][]impl.Row{rowsAt(100), rowsAt(100, 200), rowsAt(1, 2, 3, 4, 5, 6, 7), rowsAt(1, 2, 3, 4, 5, 6, 7, 8)} {
		frequencies, columns := inColumns(table)
		rows := len(table)
		for which := range columns {
			for _, length := range []int{0, rows - 1, rows + 1, impl.MaxRows + 1, 1000} {
				if length == rows {
					continue
				}
				other := columns
				other[which] = make([]complex64, length)
				expectNoColumns(t, frequencies, other)
			}
		}
		expectNoColumns(t, nil, columns)
		expectNoColumns(t, frequencies[:rows-1], columns)
		expectNoColumns(t, append(slices.Clone(frequencies), 1000), columns)
		expectNoColumns(t, frequencies, [columnCount][]complex64{})
	}
}

func TestP38ColumnsOfNoTable(t *testing.T) {
	for _, table := range noTables() {
		frequencies, columns := inColumns(table)
		expectNoColumns(t, frequencies, columns)
	}
}

func TestP38TablesAreNewMemory(t *testing.T) {
	for _, table := range tables(500) {
		frequencies, columns := inColumns(table)
		first, _ := tableFrom(frequencies, columns)
		second, _ := tableFrom(frequencies, columns)
		for i := range first[:cap(first)] {
			first[:cap(first)][i] = row(-1, 99, 99, 99, 99)
		}
		if !sameTable(second, table) {
			t.Fatal("two tables share their rows:", table)
		}
		keptFrequencies, keptColumns := inColumns(table)
		if !slices.Equal(frequencies, keptFrequencies) {
			t.Fatal("the frequencies were changed:", frequencies)
		}
		for which := range columns {
			if !sameNumbers(columns[which], keptColumns[which]) {
				t.Fatal("a column was changed:", columns[which])
			}
			clear(columns[which])
		}
		clear(frequencies)
		if !sameTable(second, table) {
			t.Fatal("the table keeps what it was made of:", table)
		}
	}
}
