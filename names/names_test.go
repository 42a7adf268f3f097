package names_test

import (
	"math"
	"math/big"
	"math/rand/v2"
	"slices"
	"strconv"
	"strings"
	"testing"

	"parterre/api"
	"parterre/names"
)

// lines tells lines with their names, as text tells them.
func lines(s string) [][]string {
	var l [][]string
	for _, part := range strings.Split(s, "/") {
		l = append(l, strings.Fields(part))
	}
	return l
}

func text(l [][]string) string {
	var parts []string
	for _, names := range l {
		parts = append(parts, strings.Join(names, " "))
	}
	return strings.Join(parts, "/")
}

// numbers are those that n may be, with the edges of MaxLine and of ints.
func numbers() []int {
	l := []int{math.MinInt, math.MinInt + 1, math.MaxInt - 1, math.MaxInt}
	for _, n := range []int{api.MaxLine, 2 * api.MaxLine, 3 * api.MaxLine, 4 * api.MaxLine} {
		l = append(l, n-1, n, n+1, -n-1, -n, -n+1)
	}
	for n := -12; n <= 12; n++ {
		l = append(l, n)
	}
	return l
}

func isBeyond(n, most int) bool { return n < -most || n > most }

// tables are tables of some shapes.
func tables() [][][]string {
	many := make([][]string, api.MaxLine+1)
	for i := range many {
		many[i] = []string{"a", "n" + strconv.Itoa(i%7)}
	}
	bare := make([][]string, api.MaxLine+1)
	bare[77], bare[api.MaxLine] = []string{"a"}, []string{"b"}
	return [][][]string{
		{nil}, {{"a"}}, {{}, {}}, lines("a/b/a"), lines("a/b/a a"), lines("///"), lines("b//a b/c/a/"), lines("/a/a/a/"), {{"a", ""}, {""}, {}}, many, bare,
		make([][]string, 4*api.MaxLine), // more than Table makes
	}
}

func TestExample(t *testing.T) {
	l := lines("a/b/a")
	for _, x := range [][2]int{{2, 2}, {3, 3}, {-1, 2}, {-3, -1}} {
		if n := names.Nth(l, "a", x[0]); n != x[1] {
			t.Error(x, n)
		}
	}
	if n := names.Along(l, "b", 1, 1); n != 3 {
		t.Error(n)
	}
}

func TestTable(t *testing.T) { // P16.1
	a := api.Area{Name: "a", Row: 0, Col: 1, Rows: 2, Cols: 3}
	b := api.Area{Name: "b", Row: 2, Col: 1, Rows: 1, Cols: 1}
	for _, x := range []struct {
		lines      string
		areas      []api.Area
		most       int
		cols, rows string
	}{
		{"", nil, 0, "", ""},
		{"x", nil, 0, "x", "x"},
		{"x/y/z", nil, 0, "x", "x"},
		{"x/y z/z", nil, 2, "x/y z/z", "x/y z/z"},
		{"x/y/z", nil, 1, "x/y", "x/y"},
		{"x//z", nil, 5, "x//z///", "x//z///"},
		{"x x/x", nil, 1, "x x/x", "x x/x"},
		{"", []api.Area{a}, 4, "/a-start///a-end", "a-start//a-end//"},
		{"x/y", []api.Area{a}, 4, "x/y a-start///a-end", "x a-start/y/a-end//"},
		{"x/y", []api.Area{a, b}, 4, "x/y a-start b-start/b-end//a-end", "x a-start/y/a-end b-start/b-end/"},
		{"x/y", []api.Area{b, a}, 4, "x/y b-start a-start/b-end//a-end", "x a-start/y/b-start a-end/b-end/"},
		// ends at the last line, and beyond it
		{"", []api.Area{a}, 3, "/a-start//", "a-start//a-end/"},
		{"", []api.Area{a}, 1, "/a-start", "a-start/"},
		{"", []api.Area{a, b}, 0, "", "a-start"},
		{"p", []api.Area{b}, 2, "p/b-start/b-end", "p//b-start"},
		// several of one name, and names that lines have already
		{"a-start/q", []api.Area{a, a}, 4, "a-start/q a-start a-start///a-end a-end", "a-start a-start a-start/q/a-end a-end//"},
		{"", []api.Area{a, {Name: "a", Row: 2, Col: 0, Rows: 1, Cols: 1}}, 4, "a-start/a-start a-end///a-end", "a-start//a-end a-start/a-end/"},
		// no area's of a document: nothing long, or turned, or ahead of the first line
		{"x", []api.Area{{Name: "e"}}, 1, "x e-start e-end/", "x e-start e-end/"},
		{"", []api.Area{{Name: "e", Row: 1, Col: 2}, {Name: "f", Col: 2}}, 2, "//e-start e-end f-start f-end", "f-start f-end/e-start e-end/"},
		{"", []api.Area{{Name: "e", Row: 2, Col: 1, Rows: -1, Cols: -1}}, 2, "e-end/e-start/", "/e-end/e-start"},
		{"", []api.Area{{Name: "e", Row: -1, Col: -2, Rows: 2, Cols: 2}}, 2, "e-end//", "/e-end/"},
		{"", []api.Area{{Name: "e", Row: -1, Col: -2, Rows: 1, Cols: 1}}, 2, "//", "e-end//"},
		{"", []api.Area{{Row: 0, Col: 1, Rows: 1, Cols: 1}}, 2, "/-start/-end", "-start/-end/"},
	} {
		for _, rows := range []bool{false, true} {
			want := x.cols
			if rows {
				want = x.rows
			}
			got := names.Table(lines(x.lines), x.areas, rows, x.most)
			if len(got) != x.most+1 || text(got) != want {
				t.Errorf("%q, %v, %v, %d: %d, %q, not %q", x.lines, x.areas, rows, x.most, len(got), text(got), want)
			}
		}
	}
}

func TestTableMost(t *testing.T) { // P16.1
	l, area := lines("x/y"), []api.Area{{Name: "a", Row: api.MaxLine - 1, Col: api.MaxLine, Rows: 1, Cols: 1}}
	for _, most := range []int{math.MinInt, -api.MaxLine, -2, -1, api.MaxLine + 1, api.MaxLine + 2, math.MaxInt} {
		if names.Table(l, area, true, most) != nil || names.Table(nil, nil, false, most) != nil {
			t.Error(most)
		}
	}
	for _, most := range []int{0, 1, 2, api.MaxLine - 1, api.MaxLine} {
		if n, k := len(names.Table(l, nil, true, most)), len(names.Table(nil, nil, false, most)); n != most+1 || k != most+1 {
			t.Error(most, n, k)
		}
	}
	rows, cols := names.Table(l, area, true, api.MaxLine), names.Table(l, area, false, api.MaxLine)
	for i := range rows {
		want := map[int][2]string{0: {"x", "x"}, 1: {"y", "y"}, api.MaxLine - 1: {"a-start", ""}, api.MaxLine: {"a-end", "a-start"}}[i]
		if got := [2]string{strings.Join(rows[i], " "), strings.Join(cols[i], " ")}; got != want {
			t.Error(i, got)
		}
	}
	long := make([][]string, 2*api.MaxLine)
	for i := range long {
		long[i] = []string{strconv.Itoa(i)}
	}
	for i, line := range names.Table(long, nil, true, api.MaxLine) {
		if len(line) != 1 || line[0] != strconv.Itoa(i) {
			t.Fatal(i, line)
		}
	}
}

func TestTableFar(t *testing.T) { // P16.1: ends that no table has, though ints that wrap round would have them
	far := []int{math.MinInt, math.MinInt + 1, math.MinInt + 2, math.MinInt + 3, -1 << 62, -5, -2, -1, 3, 4, 1 << 62, math.MaxInt - 2, math.MaxInt - 1, math.MaxInt}
	for _, from := range far {
		for _, n := range far {
			want := "//"
			if to := new(big.Int).Add(big.NewInt(int64(from)), big.NewInt(int64(n))); to.Sign() >= 0 && to.Cmp(big.NewInt(2)) <= 0 {
				want = [3]string{"e-end//", "/e-end/", "//e-end"}[to.Int64()]
			}
			if got := names.Table(nil, []api.Area{{Name: "e", Row: from, Rows: n, Col: 9, Cols: 9}}, true, 2); text(got) != want {
				t.Errorf("%d, %d: %q, not %q", from, n, text(got), want)
			}
			if got := names.Table(nil, []api.Area{{Name: "e", Col: from, Cols: n, Row: 9, Rows: 9}}, false, 2); text(got) != want {
				t.Errorf("%d, %d: %q, not %q", from, n, text(got), want)
			}
		}
	}
}

func TestUnchanged(t *testing.T) { // rules 4 and 8: what is handed in, and the room behind it, stays
	whole := [][]string{{"a", "b", "spare"}, {"spare"}, {"c", "spare", "spare"}, {"spare"}}
	l := [][]string{whole[0][:2], whole[1][:0], whole[2][:1]}
	areas := []api.Area{{Name: "q", Rows: 1, Cols: 2}, {Name: "r", Rows: 2, Cols: 1}, {Name: "spare", Rows: 1, Cols: 1}}
	for _, want := range []string{"a b q-start r-start/q-end/c r-end/", "a b q-start r-start/r-end/c q-end/"} {
		got := names.Table(l, areas[:2], strings.Contains(want, "/q-end"), 3)
		if text(got) != want {
			t.Error(text(got))
		}
		for i := range got { // no two lists of the answer are one
			got[i] = append(got[i], "more")
		}
		names.Find(l, "a")
		names.Edge(l, "a", true)
		names.Nth(l, "a", 1)
		names.Along(l, "a", 0, -1)
	}
	if text(l) != "a b//c" || text(whole) != "a b spare/spare/c spare spare/spare" || areas[0].Name+areas[1].Name+areas[2].Name != "qrspare" {
		t.Error(l, whole, areas)
	}
	if len(names.Find(l, "spare")) > 0 || names.Nth(l[:2], "c", 1) != 2 {
		t.Error("spare room")
	}
}

func TestFind(t *testing.T) { // P16.2
	l := lines("a/b/a a/c a b//b b a")
	for _, x := range []struct {
		name string
		want []int
	}{
		{"a", []int{0, 2, 3, 5}}, {"b", []int{1, 3, 5}}, {"c", []int{3}}, {"d", nil}, {"A", nil}, {"a ", nil}, {"", []int{0, 1, 2, 3, 4, 5}},
	} {
		if got := names.Find(l, x.name); !slices.Equal(got, x.want) {
			t.Errorf("%q: %v, not %v", x.name, got, x.want)
		}
	}
	odd := [][]string{{"a"}, {""}, {}, {"", "a"}}
	if got := names.Find(odd, ""); !slices.Equal(got, []int{0, 1, 2, 3}) {
		t.Error(got)
	}
	if got := names.Find(odd, "a"); !slices.Equal(got, []int{0, 3}) {
		t.Error(got)
	}
	for _, l := range [][][]string{nil, {}} {
		if len(names.Find(l, "")) > 0 || len(names.Find(l, "a")) > 0 {
			t.Error("no line")
		}
	}
}

func TestEdge(t *testing.T) { // P16.4
	areas := []api.Area{{Name: "q", Row: 1, Col: 0, Rows: 2, Cols: 1}, {Name: "r", Row: 0, Col: 1, Rows: 3, Cols: 2}}
	l := names.Table(lines("x/p-start/s-end q-start"), areas, false, 3)
	for _, x := range []struct {
		name       string
		start, end int // -1: none
	}{
		{"q", 0, 1}, {"r", 1, 3}, {"p", 1, -1}, {"s", -1, 2}, {"x", -1, -1}, {"q-start", -1, -1}, {"", -1, -1}, {"Q", -1, -1},
	} {
		for i, want := range []int{x.start, x.end} {
			n, ok := names.Edge(l, x.name, i == 1)
			if n != max(0, want) || ok != (want >= 0) {
				t.Errorf("%q, %v: %d, %v", x.name, i == 1, n, ok)
			}
		}
	}
	rows := names.Table(nil, areas, true, 3)
	for i, want := range []int{1, 3} {
		if n, ok := names.Edge(rows, "q", i == 1); n != want || !ok {
			t.Error(i, n, ok)
		}
	}
	if n, ok := names.Edge(lines("/-start/-end"), "", false); n != 1 || !ok {
		t.Error(n, ok)
	}
	if n, ok := names.Edge(lines("/-start/-end"), "", true); n != 2 || !ok {
		t.Error(n, ok)
	}
	// the first of several lines, at both ends, and none where there is no line
	twice := lines("/q-end/q-start/q-start q-end/q-end")
	if n, ok := names.Edge(twice, "q", false); n != 2 || !ok {
		t.Error(n, ok)
	}
	if n, ok := names.Edge(twice, "q", true); n != 1 || !ok {
		t.Error(n, ok)
	}
	if n, ok := names.Edge(nil, "q", true); n != 0 || ok {
		t.Error(n, ok)
	}
}

// walk goes from a line on, one line at a step, until n lines were met: of the table those of the name, on its other side all of them.
func walk(t [][]string, name string, from, n int) int {
	step := 1
	if n < 0 {
		step = -1
	}
	at := from
	for n != 0 {
		at += step
		beyond := step > 0 && at >= len(t) || step < 0 && at < 0
		if beyond || at >= 0 && at < len(t) && (name == "" || slices.Contains(t[at], name)) {
			n -= step
		}
	}
	return at
}

func TestNth(t *testing.T) { // P16.3
	for _, x := range []struct {
		s, name string
		want    map[int]int
	}{
		{"a/b/a a/c", "a", map[int]int{1: 0, 2: 2, 3: 4, 4: 5, 9999: 10000, 10000: 10001, -1: 2, -2: 0, -3: -1, -4: -2, -10000: -9998}},
		{"a/b/a a/c", "c", map[int]int{1: 3, 2: 4, 3: 5, -1: 3, -2: -1, -3: -2}},
		{"a/b/a a/c", "z", map[int]int{1: 4, 2: 5, 10000: 10003, -1: -1, -2: -2, -10000: -10000}},
		{"a/b/a a/c", "", map[int]int{1: 0, 2: 1, 3: 2, 4: 3, 5: 4, 10000: 9999, -1: 3, -2: 2, -3: 1, -4: 0, -5: -1, -10000: -9996}},
		{"", "", map[int]int{1: 0, 2: 1, -1: 0, -2: -1}},
		{"", "a", map[int]int{1: 1, 2: 2, -1: -1, -2: -2}},
		{"a", "a", map[int]int{1: 0, 2: 1, -1: 0, -2: -1}},
	} {
		for n, want := range x.want {
			if got := names.Nth(lines(x.s), x.name, n); got != want {
				t.Errorf("%q, %q, %d: %d, not %d", x.s, x.name, n, got, want)
			}
		}
	}
	for _, l := range tables() {
		for _, name := range []string{"", "a", "b", "z"} {
			for _, n := range numbers() {
				want := 0
				switch {
				case n == 0 || isBeyond(n, api.MaxLine):
				case n > 0:
					want = walk(l, name, -1, n)
				default:
					want = walk(l, name, len(l), n)
				}
				if got := names.Nth(l, name, n); got != want {
					t.Errorf("%d lines, %q, %d: %d, not %d", len(l), name, n, got, want)
				}
			}
		}
	}
}

func TestAlong(t *testing.T) { // P16.5
	const s = "a/b/a a/c"
	for _, x := range []struct {
		name          string
		from, n, want int
	}{
		{"a", -1, 1, 0}, {"a", 0, 1, 2}, {"a", 0, 2, 4}, {"a", 0, 3, 5}, {"a", 1, 1, 2}, {"a", 2, 1, 4}, {"a", 3, 1, 4}, {"a", 4, 1, 5}, {"a", 9, 2, 11}, {"a", -9, 1, 0}, {"a", -9, 2, 2}, {"a", -9, 3, 4},
		{"a", 4, -1, 2}, {"a", 3, -1, 2}, {"a", 2, -1, 0}, {"a", 2, -2, -1}, {"a", 1, -1, 0}, {"a", 0, -1, -1}, {"a", -1, -1, -2}, {"a", -9, -2, -11}, {"a", 9, -1, 2}, {"a", 9, -2, 0}, {"a", 9, -3, -1},
		{"z", 0, 1, 4}, {"z", 0, -1, -1}, {"z", 3, 2, 5}, {"z", 9, 1, 10}, {"z", 9, -1, -1}, {"z", -9, 1, 4}, {"z", -9, -1, -10},
		{"", 0, 1, 1}, {"", 0, 3, 3}, {"", 0, 4, 4}, {"", 3, 1, 4}, {"", 3, -3, 0}, {"", 3, -4, -1}, {"", 9, 1, 10}, {"", 9, -1, 3}, {"", 9, -4, 0}, {"", 9, -5, -1}, {"", -9, 1, 0}, {"", -9, -1, -10}, {"", -1, 1, 0}, {"", 4, -1, 3},
		{"a", 30000, 10000, 40000}, {"a", 30000, -10000, -9998}, {"a", -30000, -10000, -40000}, {"a", -30000, 10000, 10001}, {"a", 30001, 1, 30001}, {"a", -30001, -1, -30001}, {"a", 7, 10001, 7}, {"a", 7, -10001, 7}, {"a", 7, 0, 7}, {"a", -7, 0, -7},
	} {
		if got := names.Along(lines(s), x.name, x.from, x.n); got != x.want {
			t.Errorf("%v: %d", x, got)
		}
	}
	for _, l := range tables() {
		for _, name := range []string{"", "a", "b", "z"} {
			for _, from := range append(numbers(), len(l)-2, len(l)-1, len(l), len(l)+1, 77) {
				for _, n := range []int{math.MinInt, -api.MaxLine - 1, -api.MaxLine, -9, -3, -2, -1, 0, 1, 2, 3, 9, api.MaxLine, api.MaxLine + 1, math.MaxInt} {
					want := from
					if !isBeyond(from, 3*api.MaxLine) && !isBeyond(n, api.MaxLine) {
						want = walk(l, name, from, n)
					}
					if got := names.Along(l, name, from, n); got != want {
						t.Errorf("%d lines, %q, from %d, %d: %d, not %d", len(l), name, from, n, got, want)
					}
				}
			}
		}
	}
}

func TestNoLine(t *testing.T) { // P16.3, P16.5
	for _, l := range [][][]string{nil, {}} {
		for _, n := range numbers() {
			for _, name := range []string{"", "a"} {
				if got := names.Nth(l, name, n); got != 0 {
					t.Errorf("Nth of %d: %d", n, got)
				}
				for _, from := range numbers() {
					if got := names.Along(l, name, from, n); got != from {
						t.Errorf("Along from %d, %d: %d", from, n, got)
					}
				}
			}
		}
	}
}

func TestRising(t *testing.T) { // P16.6, and P16.7: tables by chance
	random := rand.New(rand.NewPCG(16, 6))
	for range 300 {
		l := make([][]string, 1+random.IntN(12))
		for i := range l {
			for range random.IntN(3) {
				l[i] = append(l[i], string(rune('a'+random.IntN(3))))
			}
		}
		from := random.IntN(40) - 14
		for _, name := range []string{"a", "b", "c", "d", ""} {
			for n := -30; n < 30; n++ {
				if n == -1 || n == 0 { // of one sign
					continue
				}
				if names.Nth(l, name, n) >= names.Nth(l, name, n+1) || names.Along(l, name, from, n) >= names.Along(l, name, from, n+1) {
					t.Fatalf("%v, %q, from %d: %d and one more", l, name, from, n)
				}
			}
		}
		for n := 1; n <= 30; n++ {
			if names.Nth(l, "", n) != n-1 || names.Nth(l, "", -n) != len(l)-n {
				t.Fatal(l, n)
			}
			for i := range l {
				if names.Along(l, "", i, n) != i+n || names.Along(l, "", i, -n) != i-n {
					t.Fatal(l, i, n)
				}
			}
		}
	}
}

func TestAgainstWalk(t *testing.T) { // P16.2 to P16.5: tables by chance, held against steps of one line
	random := rand.New(rand.NewPCG(16, 2))
	for range 2000 {
		areas := make([]api.Area, random.IntN(4))
		for i := range areas {
			areas[i] = api.Area{Name: string(rune('a' + random.IntN(3))), Row: random.IntN(6), Col: random.IntN(6), Rows: 1 + random.IntN(4), Cols: 1 + random.IntN(4)}
		}
		given := make([][]string, random.IntN(9))
		for i := range given {
			given[i] = []string{"x", "a-start", "y", "b-end"}[random.IntN(4):][:1]
		}
		most, rows := random.IntN(10), random.IntN(2) == 0
		l := names.Table(given, areas, rows, most)
		if want := tabled(given, areas, rows, most); text(l) != text(want) || len(l) != len(want) {
			t.Fatalf("%v, %v, %v, %d: %v, not %v", given, areas, rows, most, l, want)
		}
		name := []string{"x", "y", "a-start", "b-end", "c-start", ""}[random.IntN(6)]
		from, n := random.IntN(30)-10, random.IntN(30)-15
		if got := names.Along(l, name, from, n); got != walk(l, name, from, n) {
			t.Fatalf("%v, %q, %d, %d: %d", l, name, from, n, got)
		}
		if found := names.Find(l, name); !slices.IsSorted(found) || len(found) > 0 && names.Nth(l, name, 1) != found[0] || len(found) > 0 && names.Nth(l, name, -1) != found[len(found)-1] {
			t.Fatal(l, name, found)
		}
		n, ok := names.Edge(l, "a", false)
		if found := names.Find(l, "a-start"); ok != (len(found) > 0) || ok && n != found[0] || !ok && n != 0 {
			t.Fatal(l, n, ok)
		}
	}
}

// tabled tells a table line by line.
func tabled(lines [][]string, areas []api.Area, rows bool, most int) [][]string {
	var l [][]string
	for i := range most + 1 {
		var line []string
		if i < len(lines) {
			line = slices.Clone(lines[i])
		}
		for _, a := range areas {
			from, to := a.Col, a.Col+a.Cols
			if rows {
				from, to = a.Row, a.Row+a.Rows
			}
			if i == from {
				line = append(line, a.Name+"-start")
			}
			if i == to {
				line = append(line, a.Name+"-end")
			}
		}
		l = append(l, line)
	}
	return l
}
