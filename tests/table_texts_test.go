package tests

import (
	"math"
	"math/rand"
	"regexp"
	"slices"
	"strconv"
	"strings"
	"testing"

	"loop.example/twoports/impl"
)

// zeroRow and twoLines are texts of tables.
const (
	zeroRow  = "0 0,0 0,0 0,0 0,0\n"
	twoLines = "100 1000,0 0,2000 500,0 -1000,0\n200 3000,0 0,0 500,0 -1000,4000\n"
)

func expectText(t *testing.T, table []impl.Row, want string, wantOk bool) {
	t.Helper()
	if got, ok := impl.TableText(table); got != want || ok != wantOk {
		t.Errorf("%v: got %q %v, want %q %v", table, got, ok, want, wantOk)
	}
}

// expectRead reports a text that is not read as a table, or not as this one.
func expectRead(t *testing.T, text string, want []impl.Row) {
	t.Helper()
	got, ok := impl.ReadTable(text)
	expectTable(t, strconv.Quote(text), got, ok, want, true)
}

func expectRefused(t *testing.T, text string) {
	t.Helper()
	got, ok := impl.ReadTable(text)
	expectTable(t, strconv.Quote(text), got, ok, nil, false)
}

// anyMilli is a number of thousandths that a part may have.
func anyMilli(r *rand.Rand) int {
	switch r.Intn(4) {
	case 0:
		some := []int{0, 1, -1, 9, -9, 10, 500, -1000, 9999, impl.MaxMilli - 1, 1 - impl.MaxMilli, impl.MaxMilli, -impl.MaxMilli}
		return some[r.Intn(len(some))]
	case 1:
		return r.Intn(2001) - 1000
	}
	return r.Intn(2*impl.MaxMilli+1) - impl.MaxMilli
}

func milliTables(count int) [][]impl.Row {
	r := chance()
	var list [][]impl.Row
	for i := range count {
		list = append(list, anyTable(r, 1+i%impl.MaxRows, func() complex64 { return impl.Milli(anyMilli(r), anyMilli(r)) }))
	}
	return list
}

// textAsTold writes a table of which each part has at most MaxMilli thousandths.
func textAsTold(table []impl.Row) (string, bool) {
	part := func(x float32) string {
		n := int(math.Floor(math.Abs(float64(x))*1000 + 0.5))
		if x < 0 {
			n = -n
		}
		return strconv.Itoa(n)
	}
	text := ""
	for _, r := range table {
		text += strconv.Itoa(r.Frequency)
		for which := range columnCount {
			z := *numberAt(&r.Over, which)
			if math.Abs(float64(real(z))) >= 9999.9995 || math.Abs(float64(imag(z))) >= 9999.9995 {
				return "", false
			}
			text += " " + part(real(z)) + "," + part(imag(z))
		}
		text += "\n"
	}
	return text, true
}

var (
	tableShape = regexp.MustCompile(`\A(?:(?:0|[1-9][0-9]{0,6})(?: (?:0|-?[1-9][0-9]{0,6}),(?:0|-?[1-9][0-9]{0,6})){4}\n){1,8}\z`)
	wholeShape = regexp.MustCompile(`-?[0-9]+`)
)

// readAsTold reads a text by its shape.
func readAsTold(text string) ([]impl.Row, bool) {
	if !tableShape.MatchString(text) {
		return nil, false
	}
	var table []impl.Row
	for _, line := range strings.Split(strings.TrimSuffix(text, "\n"), "\n") {
		var n []int
		for _, whole := range wholeShape.FindAllString(line, -1) {
			value, _ := strconv.Atoi(whole)
			n = append(n, value)
		}
		if len(table) > 0 && n[0] <= table[len(table)-1].Frequency {
			return nil, false
		}
		table = append(table, row(n[0], impl.Milli(n[1], n[2]), impl.Milli(n[3], n[4]), impl.Milli(n[5], n[6]), impl.Milli(n[7], n[8])))
	}
	return table, true
}

func TestP40TablesOfThousandthsAreRead(t *testing.T) {
	for _, table := range milliTables(8000) {
		text, ok := impl.TableText(table)
		want, _ := textAsTold(table)
		if !ok || text != want {
			t.Fatalf("%v: got %q %v, want %q", table, text, ok, want)
		}
		expectRead(t, text, table)
		if t.Failed() {
			return
		}
	}
}

func TestP40TheReadTableHasTheSameText(t *testing.T) {
	r := chance()
	for i := range 8000 {
		most := []float32{0.001, 1, 100, 9999}[r.Intn(4)]
		part := func() float32 { return most * (2*r.Float32() - 1) }
		table := anyTable(r, 1+i%impl.MaxRows, func() complex64 { return complex(part(), part()) })
		text, ok := impl.TableText(table)
		want, _ := textAsTold(table)
		if !ok || text != want {
			t.Fatalf("%v: got %q %v, want %q", table, text, ok, want)
		}
		read, ok := impl.ReadTable(text)
		if !ok {
			t.Fatalf("%q is not read", text)
		}
		expectText(t, read, text, true)
	}
}

func TestP40TextsOfTables(t *testing.T) {
	top := impl.Milli(impl.MaxMilli, -impl.MaxMilli)
	for _, c := range []struct {
		table []impl.Row
		want  string
	}{
		{[]impl.Row{row(0, 0, 0, 0, 0)}, zeroRow},
		{[]impl.Row{row(impl.MaxFrequency, 1, 2i, -3, complex(-0.25, 0.125))}, "9999999 1000,0 0,2000 -3000,0 -250,125\n"},
		{[]impl.Row{row(100, 1, 2i, 0.5, -1), row(200, 3, 0, 0.5, complex(-1, 4))}, twoLines},
		{[]impl.Row{row(7, top, -top, complex(0, 0.001), complex(-0.009, 0.01))}, "7 9999999,-9999999 -9999999,9999999 0,1 -9,10\n"},
		// Parts of -0, and of less than half a thousandth, are written as 0; from half a thousandth on they are not.
		{[]impl.Row{row(1, complex(minus0, 0), complex(0, minus0), complex(minus0, minus0), 0)}, "1 0,0 0,0 0,0 0,0\n"},
		{[]impl.Row{row(1, complex(underOne, -underOne), complex(least32, -least32), complex(-0.0004, 0.0004), complex(0, -1e-30))}, "1 0,0 0,0 0,0 0,0\n"},
		{[]impl.Row{row(1, complex(0.0005, -0.0005), complex(0.0014, -0.0014), complex(aHalf, -aHalf), complex(0.0006, -0.0006))}, "1 1,-1 1,-1 63,-63 1,-1\n"},
	} {
		expectText(t, c.table, c.want, true)
	}
	eight := rowsAt(0, 1, 2, 3, 4, 5, 6, 7)
	text, ok := impl.TableText(eight)
	if !ok || strings.Count(text, "\n") != impl.MaxRows {
		t.Errorf("%v: %q %v", eight, text, ok)
	}
	expectRead(t, text, eight)
}

func TestP40NumbersThatAreNotWritten(t *testing.T) {
	beyond := float32(10000)
	for _, great := range []complex64{complex(beyond, 0), complex(0, beyond), complex(-beyond, 0), complex(1, -beyond), greatest, complex(-max32, max32), complex(0, 1e30)} {
		for which := range columnCount {
			for _, frequencies := range [][]int{{5}, {5, 6, 7}, {1, 2, 3, 4, 5, 6, 7, 8}} {
				for i := range frequencies {
					table := rowsAt(frequencies...)
					*numberAt(&table[i].Over, which) = great
					expectText(t, table, "", false)
				}
			}
		}
	}
	below := math.Nextafter32(beyond, 0)
	expectText(t, []impl.Row{row(1, complex(below, -below), 0, 0, 0)}, "1 9999999,-9999999 0,0 0,0 0,0\n", true)
	told := map[bool]int{}
	for _, table := range tables(8000) {
		want, wantOk := textAsTold(table)
		expectText(t, table, want, wantOk)
		told[wantOk]++
	}
	if told[true] < 30 || told[false] < 1000 {
		t.Error("told only", told)
	}
}

func TestP40ListsThatAreNoTables(t *testing.T) {
	for _, table := range noTables() {
		expectText(t, table, "", false)
	}
}

func TestP40TablesAreLeftAsTheyWereAndNew(t *testing.T) {
	for _, table := range milliTables(200) {
		before := slices.Clone(table)
		text, _ := impl.TableText(table)
		expectText(t, table, text, true)
		if !sameTable(table, before) {
			t.Fatalf("%v was %v", table, before)
		}
		first, _ := impl.ReadTable(text)
		second, _ := impl.ReadTable(text)
		for i := range first[:cap(first)] {
			first[:cap(first)][i] = row(-1, 99, 99, 99, 99)
		}
		if !sameTable(second, table) {
			t.Fatal("two tables share their rows:", second)
		}
	}
}

// anyText is the text of a table that was not written by the program.
func anyText(r *rand.Rand) string {
	text := ""
	for _, frequency := range anyFrequencies(r, 1+r.Intn(impl.MaxRows)) {
		text += strconv.Itoa(frequency)
		for range columnCount {
			text += " " + strconv.Itoa(anyMilli(r)) + "," + strconv.Itoa(anyMilli(r))
		}
		text += "\n"
	}
	return text
}

func TestP41ReadTextsAreCanonical(t *testing.T) {
	r := chance()
	for range 8000 {
		text := anyText(r)
		want, wantOk := readAsTold(text)
		if !wantOk {
			t.Fatalf("no text of a table: %q", text)
		}
		expectRead(t, text, want)
		expectText(t, want, text, true)
		for _, more := range []string{" ", "\n", "0", "\n ", " \n", "\x00", zeroRow} {
			expectRefused(t, text+more)
		}
		for _, ahead := range []string{" ", "\n", "0", "+", "-"} {
			expectRefused(t, ahead+text)
		}
		expectRefused(t, text[:len(text)-1])
		if t.Failed() {
			return
		}
	}
}

// All other texts are refused, with a byte more, a byte less, another byte, or two bytes exchanged.
func TestP41TextsWithOtherBytes(t *testing.T) {
	const some = "0123456789-+,. \n\r\t\x00\xffae_"
	r := chance()
	told := map[bool]int{}
	for range 100000 {
		text := []byte(anyText(r))
		i, other := r.Intn(len(text)), some[r.Intn(len(some))]
		switch r.Intn(4) {
		case 0:
			text = slices.Insert(text, i, other)
		case 1:
			text = slices.Delete(text, i, i+1)
		case 2:
			text[i] = other
		case 3:
			j := r.Intn(len(text))
			text[i], text[j] = text[j], text[i]
		}
		want, wantOk := readAsTold(string(text))
		got, ok := impl.ReadTable(string(text))
		expectTable(t, strconv.Quote(string(text)), got, ok, want, wantOk)
		if ok {
			expectText(t, got, string(text), true)
		}
		if t.Failed() {
			return
		}
		told[wantOk]++
	}
	if told[true] < 10000 || told[false] < 10000 {
		t.Error("told only", told)
	}
}

// The beginnings of a text that are texts of tables end with a line.
func TestP41BeginningsOfTexts(t *testing.T) {
	const first = "100 1000,0 0,2000 500,0 -1000,0\n"
	for i := range len(twoLines) {
		if begun := twoLines[:i]; begun != first {
			expectRefused(t, begun)
		}
	}
	expectRead(t, first, []impl.Row{row(100, 1, 2i, 0.5, -1)})
	expectRead(t, twoLines, []impl.Row{row(100, 1, 2i, 0.5, -1), row(200, 3, 0, 0.5, complex(-1, 4))})
}

func TestP41TextsThatAreRead(t *testing.T) {
	top := impl.Milli(impl.MaxMilli, -impl.MaxMilli)
	expectRead(t, zeroRow, []impl.Row{row(0, 0, 0, 0, 0)})
	expectRead(t, "9999999 9999999,-9999999 -9999999,9999999 1,-1 9,-9\n", []impl.Row{row(impl.MaxFrequency, top, -top, complex(0.001, -0.001), complex(0.009, -0.009))})
	expectRead(t, "0 1,0 0,0 0,0 0,0\n1 0,1 0,0 0,0 0,0\n", []impl.Row{row(0, 0.001, 0, 0, 0), row(1, complex(0, 0.001), 0, 0, 0)})
}

func TestP41TextsThatAreNoTables(t *testing.T) {
	for _, text := range []string{
		"", "\n", " ", "\n\n", "0", "0\n", "0 0,0\n", "0 0,0 0,0 0,0\n", "0 0,0 0,0 0,0 0,0 0,0\n", "0,0 0,0 0,0 0,0\n",
		"0 0,0 0,0 0,0 0,0", zeroRow + "\n", "\n" + zeroRow, zeroRow + " ", " " + zeroRow, "0 0,0 0,0 0,0 0,0 \n", "0 0,0 0,0 0,0 0,0\r\n",
		"0  0,0 0,0 0,0 0,0\n", "0 0,0  0,0 0,0 0,0\n", "0 0,0 0,0 0,00,0\n", "0 0 ,0 0,0 0,0 0,0\n", "0 0, 0 0,0 0,0 0,0\n", "00,0 0,0 0,0 0,0\n",
		"0\t0,0 0,0 0,0 0,0\n", "0 0;0 0,0 0,0 0,0\n", "0 00 0,0 0,0 0,0\n", "0 0 0,0 0,0 0,0\n", "0 0,,0 0,0 0,0 0,0\n", "0 0,0, 0,0 0,0 0,0\n", "0 0,0,0 0,0 0,0 0,0\n",
		"0 ,0 0,0 0,0 0,0\n", "0 0, 0,0 0,0 0,0\n", "0 , 0,0 0,0 0,0\n", "0 0,0 0,0 0,0 ,\n", " 0,0 0,0 0,0 0,0\n",
		"0 0,0\n0,0 0,0 0,0\n", "0 0,0 0,0 0,0\n 0,0\n", twoLines[1:], twoLines + "\n", strings.Replace(twoLines, "\n", "\n\n", 1), strings.Replace(twoLines, "\n", " ", 1),
		"-1 0,0 0,0 0,0 0,0\n", "10000000 0,0 0,0 0,0 0,0\n", "x 0,0 0,0 0,0 0,0\n", "1e3 0,0 0,0 0,0 0,0\n", "0x1 0,0 0,0 0,0 0,0\n", "1_0 0,0 0,0 0,0 0,0\n", "1.0 0,0 0,0 0,0 0,0\n", "\x00 0,0 0,0 0,0 0,0\n", "\xff 0,0 0,0 0,0 0,0\n", "٣ 0,0 0,0 0,0 0,0\n",
	} {
		expectRefused(t, text)
	}
}

// Each of the nine numbers of a line is refused if it is written otherwise.
func TestP41NumbersThatAreWrittenOtherwise(t *testing.T) {
	others := []string{"", "+0", "+1", "-0", "00", "01", "-01", "-00", "007", "--1", "-", "+", "1-", "1.", "0.5", "1e3", "0x1", "1_0", "x", "1x", "x1", "\x00", "1\x00", "\xff", "٣", "10000000", "-10000000", "99999999", "2147483648", "9223372036854775807", "9223372036854775808", "-9223372036854775808", "-9223372036854775809", "18446744073709551616", "18446744073709551617", "100000000000000000000000", strings.Repeat("9", 1000), "1" + strings.Repeat("0", 64)}
	for place := range 1 + 2*columnCount {
		line := func(number string) string {
			numbers := strings.Split("5 6,7 8,9 1,2 3,4", "")
			numbers[2*place] = number
			return strings.Join(numbers, "") + "\n"
		}
		for _, other := range others {
			expectRefused(t, line(other))
			expectRefused(t, zeroRow+line(other))
		}
		for _, number := range []string{"0", "9", "10", "1000000", "9999999"} {
			want, _ := readAsTold(line(number))
			expectRead(t, line(number), want)
		}
		if place == 0 {
			expectRefused(t, line("-1"))
			continue
		}
		for _, number := range []string{"-1", "-9", "-10", "-9999999"} {
			want, _ := readAsTold(line(number))
			expectRead(t, line(number), want)
		}
	}
}

func TestP41LinesThatMakeNoTable(t *testing.T) {
	lines := func(frequencies ...int) string {
		text := ""
		for _, frequency := range frequencies {
			text += strconv.Itoa(frequency) + " 1,-2 0,0 30,4 5,0\n"
		}
		return text
	}
	for _, frequencies := range [][]int{{1, 1}, {0, 0}, {2, 1}, {1, 3, 2}, {2, 1, 3}, {1, 2, 2}, {0, 1, 2, 3, 4, 5, 7, 6}, {0, 1, 2, 3, 4, 5, 6, 7, 8}, {0, 1, 2, 3, 4, 5, 6, 7, 8, 9}, {0, 1, 2, 3, 4, 5, 6, 7, 7}, {5, -1}, {1, 10000000}} {
		expectRefused(t, lines(frequencies...))
	}
	for _, frequencies := range [][]int{{0}, {9999999}, {0, 1}, {9999998, 9999999}, {0, 1, 2, 3, 4, 5, 6, 7}, {9, 10}} {
		want, _ := readAsTold(lines(frequencies...))
		expectRead(t, lines(frequencies...), want)
	}
	for _, line := range []string{zeroRow, "\n", " ", "0", "0,0 ", "x"} {
		expectRefused(t, strings.Repeat(line, 100000))
		expectRefused(t, lines(1, 2)+strings.Repeat(line, 100000))
	}
}
