package area_test

import (
	"math"
	"regexp"
	"slices"
	"strconv"
	"strings"
	"testing"

	"parterre/api"
	"parterre/area"
	"parterre/token"
)

// row tells the cells that are written with one blank between, . for one without a name.
func row(s string) []string {
	cells := strings.Split(s, " ")
	for i := range cells {
		cells[i] = strings.Trim(cells[i], ".")
	}
	return cells
}

// grid tells rows, each written as row takes them.
func grid(l ...string) [][]string {
	var rows [][]string
	for _, s := range l {
		rows = append(rows, row(s))
	}
	return rows
}

// equal tells whether rows are the same, without asking the package.
func equal(a, b [][]string) bool { return slices.EqualFunc(a, b, slices.Equal[[]string]) }

// distinct tells so many rows of so many cells, each with a name of its own.
func distinct(rows, cols int) [][]string {
	list := make([][]string, rows)
	for r := range rows {
		for c := range cols {
			list[r] = append(list[r], "n"+strconv.Itoa(r)+"-"+strconv.Itoa(c))
		}
	}
	return list
}

// times tells a text so often, with blanks between.
func times(n int, s string) string { return strings.TrimSpace(strings.Repeat(s+" ", n)) }

func name(n int) string { return strings.Repeat("x", n) }

// words tells the words of a text.
func words(t *testing.T, s string) []api.Token {
	t.Helper()
	l, _, e := token.Tokens([]byte(s))
	if e != api.OK {
		t.Fatalf("%.60q: %d", s, int(e))
	}
	return l
}

// surroundings yields the words of a text as they may be handed in: alone, without an end, with other words ahead; and the place where they begin.
func surroundings(t *testing.T, s string) func(yield func([]api.Token, int) bool) {
	t.Helper()
	l := words(t, s)
	ahead := words(t, "'a' none '#' 'b b'")[:4]
	return func(yield func([]api.Token, int) bool) {
		_ = yield(l, 0) && yield(l[:len(l)-1], 0) && yield(append(ahead, l...), 4)
	}
}

// reads asks whether Read tells these rows of a text, and so many words.
func reads(t *testing.T, s string, next int, want [][]string) {
	t.Helper()
	for l, at := range surroundings(t, s) {
		if rows, n, e := area.Read(l, at); !equal(rows, want) || n != at+next || e != api.OK || !area.Good(rows) {
			t.Errorf("%.80q at %d: %.200q, %d, %d; not %.200q, %d", s, at, rows, n, int(e), want, at+next)
		}
	}
}

// fails asks whether Read tells that error of a text, at that word.
func fails(t *testing.T, s string, place int, want api.Errno) {
	t.Helper()
	for l, at := range surroundings(t, s) {
		if rows, n, e := area.Read(l, at); len(rows) != 0 || n != at+place || e != want {
			t.Errorf("%.80q at %d: %.200q, %d, %d; not %d, %d", s, at, rows, n, int(e), at+place, int(want))
		}
	}
}

func TestExample(t *testing.T) {
	rows := grid("a a .", "b . .")
	reads(t, `"a a ." "b . .."`, 2, rows)
	if l := area.Rects(rows); !slices.Equal(l, []api.Area{{Name: "a", Rows: 1, Cols: 2}, {Name: "b", Row: 1, Rows: 1, Cols: 1}}) {
		t.Error(l)
	}
	fails(t, `"a b" "b a"`, 0, api.ErrSyntax)
}

func TestCells(t *testing.T) { // P8.1
	for s, want := range map[string][]string{
		"": {}, " ": {}, " \t\n\r\f ": {}, "a": {"a"}, ".": {""}, "...": {""}, ". .": {"", ""}, "a b": {"a", "b"}, " a\tb\nc\rd\fe ": {"a", "b", "c", "d", "e"},
		"a.b": {"a", "", "b"}, "a.b... c": {"a", "", "b", "", "c"}, ".a.": {"", "a", ""}, "..a..b..": {"", "a", "", "b", ""}, "a..": {"a", ""}, ". a .. . ": {"", "a", "", ""}, "...   ...": {"", ""},
		"c-1": {"c-1"}, "-": {"-"}, "--": {"--"}, "1": {"1"}, "1a": {"1a"}, "-1": {"-1"}, "_": {"_"}, "aZ09_-": {"aZ09_-"}, "none": {"none"}, "auto span inherit": {"auto", "span", "inherit"}, "1.5": {"1", "", "5"},
		"ä": {"ä"}, "\x80\xff": {"\x80\xff"}, "a\x80.\xff": {"a\x80", "", "\xff"},
		name(api.MaxName): {name(api.MaxName)}, name(api.MaxName + 1): {name(api.MaxName + 1)}, name(10000): {name(10000)},
		times(100, "."): slices.Repeat([]string{""}, 100), times(100, "a"): slices.Repeat([]string{"a"}, 100),
	} {
		if cells, ok := area.Cells(s); !ok || !slices.Equal(cells, want) {
			t.Errorf("%.80q: %.200q, %v", s, cells, ok)
		}
	}
	for _, s := range []string{"#", "a#", "#a", "a b #", ". # .", "a\x00", "\x00", "\v", "a\vb", "\\", "a,b", "a/b", "*", "a+b", "a:b", "'a'", "\x7f", "\x1f", "a  b\x01", "a=b", "@", "[a]", "`", "{", "a\x00.", "a\bb"} {
		if cells, ok := area.Cells(s); ok || len(cells) != 0 {
			t.Errorf("%q: %q, %v", s, cells, ok)
		}
	}
}

func TestEachByte(t *testing.T) { // P8.1
	for c := range 256 {
		b := byte(c)
		inName := token.Letter(b) || '0' <= b && b <= '9' || b == '-'
		isBlank := strings.IndexByte(" \t\n\r\f", b) >= 0
		middle := string([]byte{b})
		cells, ok := area.Cells("a" + middle + "b")
		want := []string{"a" + middle + "b"}
		switch {
		case b == '.':
			want = []string{"a", "", "b"}
		case isBlank:
			want = []string{"a", "b"}
		case !inName:
			want = nil
		}
		if ok != (want != nil) || !slices.Equal(cells, want) {
			t.Errorf("%d: %q, %v", c, cells, ok)
		}
		if area.Good([][]string{{middle}}) != inName || area.Good([][]string{{"a" + middle}}) != inName {
			t.Errorf("%d as a name: %v", c, area.Good([][]string{{middle}}))
		}
	}
}

func TestShortTexts(t *testing.T) { // P8.1
	part := regexp.MustCompile(`\.+|[-a-z0-9]+`)
	var try func(s string)
	try = func(s string) {
		var want []string
		for _, cell := range part.FindAllString(s, -1) {
			want = append(want, strings.Trim(cell, "."))
		}
		right := !strings.Contains(s, "#")
		if !right {
			want = nil
		}
		if cells, ok := area.Cells(s); ok != right || !slices.Equal(cells, want) {
			t.Errorf("%q: %q, %v", s, cells, ok)
		}
		if len(s) == 6 {
			return
		}
		for _, c := range []string{"a", "-", "1", ".", " ", "#"} {
			try(s + c)
		}
	}
	try("")
}

func TestRead(t *testing.T) { // P8.2
	for _, x := range []struct {
		s    string
		next int
		want [][]string
	}{
		{"none", 1, nil}, {"NONE", 1, nil}, {`\6eone`, 1, nil}, {"none 'a'", 1, nil}, {"none '#'", 1, nil}, {"none none", 1, nil}, {"none ;", 1, nil},
		{"'a'", 1, grid("a")}, {`"a"`, 1, grid("a")}, {"'.'", 1, grid(".")}, {"'...'", 1, grid(".")}, {"'none'", 1, grid("none")}, {"'inherit'", 1, grid("inherit")}, {"'a' 'b'", 2, grid("a", "b")}, {"'a''b'", 2, grid("a", "b")}, {"'a' 'a'", 2, grid("a", "a")}, {"'.' '..' '...'", 3, grid(".", ".", ".")},
		{"'a.b' ' a\t...b '", 2, grid("a . b", "a . b")}, {"'a a' 'a a'", 2, grid("a a", "a a")}, {"'. a a' '. a a' 'b b b'", 3, grid(". a a", ". a a", "b b b")}, {`"\61  b"`, 1, grid("a b")}, {"'A a'", 1, grid("A a")}, {"'a\\\nb'", 1, grid("ab")}, {`"a\9 b"`, 1, grid("a b")},
		{"'a' x", 1, grid("a")}, {"'a' none 'a'", 1, grid("a")}, {"'a' inherit", 1, grid("a")}, {"'a' 1px", 1, grid("a")}, {"'a' / '#'", 1, grid("a")}, {"'a' 'b' ; 'c c'", 2, grid("a", "b")}, {"'a' [ 'b' ]", 1, grid("a")}, {"'a' x( 'b'", 1, grid("a")},
		{times(api.MaxAreas, "'a'"), api.MaxAreas, slices.Repeat(grid("a"), api.MaxAreas)}, {"'" + times(api.MaxAreas, "a") + "'", 1, grid(times(api.MaxAreas, "a"))}, {"'" + times(api.MaxAreas, ".") + "'", 1, grid(times(api.MaxAreas, "."))},
		{times(api.MaxAreas, "'"+times(api.MaxAreas, "a")+"'"), api.MaxAreas, slices.Repeat(grid(times(api.MaxAreas, "a")), api.MaxAreas)}, {"'" + name(api.MaxName) + "'", 1, grid(name(api.MaxName))}, {"'" + strings.Repeat(".", 1000) + "'", 1, grid(".")},
	} {
		reads(t, x.s, x.next, x.want)
	}
}

func TestErrors(t *testing.T) { // P8.2
	long, most := "'"+name(api.MaxName+1)+"'", times(api.MaxAreas, "'a'")
	wide := "'" + times(api.MaxAreas+1, "a") + "'"
	for _, x := range []struct {
		s     string
		place int
		e     api.Errno
	}{
		// the first word
		{"inherit", 0, api.ErrFeature}, {"initial", 0, api.ErrFeature}, {"unset", 0, api.ErrFeature}, {"revert", 0, api.ErrFeature}, {"INHERIT", 0, api.ErrFeature}, {"Revert 'a'", 0, api.ErrFeature}, {"unset '#'", 0, api.ErrFeature},
		{"", 0, api.ErrSyntax}, {"x", 0, api.ErrSyntax}, {"auto", 0, api.ErrSyntax}, {"default", 0, api.ErrSyntax}, {"1", 0, api.ErrSyntax}, {"0", 0, api.ErrSyntax}, {"/", 0, api.ErrSyntax}, {"none(", 0, api.ErrSyntax}, {"inherit(", 0, api.ErrSyntax}, {"x 'a'", 0, api.ErrSyntax}, {"; 'a'", 0, api.ErrSyntax}, {"1px 'a'", 0, api.ErrSyntax}, {"[a] 'a'", 0, api.ErrSyntax},
		// a string that is wrong
		{"'#'", 0, api.ErrSyntax}, {"'a#'", 0, api.ErrSyntax}, {"'a' '#'", 1, api.ErrSyntax}, {"'a' 'b' 'a,b'", 2, api.ErrSyntax}, {"''", 0, api.ErrSyntax}, {"'  '", 0, api.ErrSyntax}, {"'a' ''", 1, api.ErrSyntax}, {"'' 'a'", 0, api.ErrSyntax}, {`'\9 '`, 0, api.ErrSyntax}, {`'\\'`, 0, api.ErrSyntax}, {"'a\v'", 0, api.ErrSyntax},
		{"'a' 'a b'", 1, api.ErrSyntax}, {"'a b' 'a'", 1, api.ErrSyntax}, {"'a b' 'a b' 'a b .'", 2, api.ErrSyntax}, {"'a b' 'a' '#'", 1, api.ErrSyntax}, {"'.' '..' '. .'", 2, api.ErrSyntax}, {"'a b' ''", 1, api.ErrSyntax},
		// names that fill no rectangle
		{"'a b' 'b a'", 0, api.ErrSyntax}, {"'a a' 'a b'", 0, api.ErrSyntax}, {"'a . a'", 0, api.ErrSyntax}, {"'a b a'", 0, api.ErrSyntax}, {"'a' '.' 'a'", 0, api.ErrSyntax}, {"'a' 'b' 'a'", 0, api.ErrSyntax}, {"'b a' 'a .'", 0, api.ErrSyntax}, {"'. a' 'a a'", 0, api.ErrSyntax}, {"'c c' 'a a' 'a b'", 0, api.ErrSyntax}, {"'a a' 'a .' x", 0, api.ErrSyntax}, {"'a .' '. a' 1px", 0, api.ErrSyntax},
		// limits
		{most + " 'a'", api.MaxAreas, api.ErrLimit}, {most + " 'b'", api.MaxAreas, api.ErrLimit}, {wide, 0, api.ErrLimit}, {"'" + times(api.MaxAreas+1, ".") + "'", 0, api.ErrLimit}, {"'" + strings.Repeat("a.", api.MaxAreas) + "a'", 0, api.ErrLimit}, {long, 0, api.ErrLimit}, {"'a' " + long, 1, api.ErrLimit}, {"'a' " + wide, 1, api.ErrLimit}, {"'a " + name(api.MaxName+1) + "'", 0, api.ErrLimit}, {"'" + name(8192) + "'", 0, api.ErrLimit},
		// they go ahead of what is wrong at the same string beside them, but for one that is no row's text
		{most + " ''", api.MaxAreas, api.ErrLimit}, {most + " 'a b'", api.MaxAreas, api.ErrLimit}, {most + " '#'", api.MaxAreas, api.ErrSyntax}, {most + " " + long, api.MaxAreas, api.ErrLimit}, {"'a' 'a " + name(api.MaxName+1) + "'", 1, api.ErrLimit}, {"'" + name(api.MaxName+1) + "#'", 0, api.ErrSyntax}, {"'" + times(api.MaxAreas+1, "a") + " #'", 0, api.ErrSyntax}, {"'a' '" + times(api.MaxAreas+1, "a") + " #'", 1, api.ErrSyntax},
		// the first string that is wrong is told, rectangles last
		{"'a' '' " + long, 1, api.ErrSyntax}, {"'a' " + long + " '#'", 1, api.ErrLimit}, {"'a b' 'b a' '#'", 2, api.ErrSyntax}, {"'a b' 'b a' 'a'", 2, api.ErrSyntax}, {"'a b' 'b a' ''", 2, api.ErrSyntax}, {"'a b' 'b a' " + long, 2, api.ErrLimit}, {"'#' 'a b' 'b a'", 0, api.ErrSyntax}, {"'b' " + most, api.MaxAreas, api.ErrLimit}, {times(api.MaxAreas/2, "'a' 'b'") + " 'a'", api.MaxAreas, api.ErrLimit},
	} {
		fails(t, x.s, x.place, x.e)
	}
}

func TestPlaces(t *testing.T) { // P8.2: a place that is none counts as that of an end
	ended := words(t, "'a' 'b' none")
	for _, l := range [][]api.Token{nil, {}, ended, ended[:3], ended[:2], ended[:1]} {
		for _, at := range []int{math.MinInt, -2, -1, len(l), len(l) + 1, math.MaxInt - 1, math.MaxInt} {
			if rows, n, e := area.Read(l, at); len(rows) != 0 || n != at || e != api.ErrSyntax {
				t.Errorf("at %d of %d: %q, %d, %d", at, len(l), rows, n, int(e))
			}
		}
	}
	if rows, n, e := area.Read(ended, 1); !equal(rows, grid("b")) || n != 2 || e != api.OK {
		t.Error(rows, n, int(e))
	}
	if rows, n, e := area.Read(ended[:1], 0); !equal(rows, grid("a")) || n != 1 || e != api.OK {
		t.Error(rows, n, int(e))
	}
}

func TestForeignWords(t *testing.T) { // P8.2: words that no bytes make
	for _, word := range []api.Token{{}, {Kind: 9, Text: "a"}, {Kind: -1, Text: "none"}, {Kind: math.MinInt}, {Kind: api.TokEnd, Text: "a"}, {Kind: api.TokSign, Text: "none"}, {Kind: api.TokIdent}, {Kind: api.TokString, Num: "a"}, {Kind: api.TokString, Text: "a\x00"}, {Kind: api.TokString, Text: strings.Repeat(" ", 2*api.MaxString)}} {
		if rows, n, e := area.Read([]api.Token{word}, 0); len(rows) != 0 || n != 0 || e != api.ErrSyntax {
			t.Errorf("%v: %q, %d, %d", word, rows, n, int(e))
		}
	}
	blanks := strings.Repeat(" ", api.MaxString)
	if rows, n, e := area.Read([]api.Token{{Kind: api.TokString, Text: blanks + "a" + blanks}}, 0); !equal(rows, grid("a")) || n != 1 || e != api.OK {
		t.Errorf("%q, %d, %d", rows, n, int(e))
	}
}

// goodRows are rows that are areas, with their texts.
func goodRows() map[string][][]string {
	return map[string][][]string{
		"none": nil, `"a"`: grid("a"), `"."`: grid("."), `"a b" "a b"`: grid("a b", "a b"), `"a a ." "b . ."`: grid("a a .", "b . ."), `"-" "1" "_"`: grid("-", "1", "_"), "\"ä \xff\"": grid("ä \xff"), `"a A"`: grid("a A"), `"span auto inherit none"`: grid("span auto inherit none"),
		`". a a" ". a a" "b c c"`: grid(". a a", ". a a", "b c c"), `"` + name(api.MaxName) + `"`: grid(name(api.MaxName)), `"` + times(api.MaxAreas, ".") + `"`: grid(times(api.MaxAreas, ".")), times(api.MaxAreas, `"a"`): slices.Repeat(grid("a"), api.MaxAreas),
		times(api.MaxAreas, `"`+times(api.MaxAreas, ".")+`"`): slices.Repeat(grid(times(api.MaxAreas, ".")), api.MaxAreas),
	}
}

// wrongRows are rows that no words could make.
func wrongRows() [][][]string {
	return [][][]string{
		{{}}, {nil}, {{}, {}}, {{"a"}, {}}, {{}, {"a"}}, {nil, {"a"}}, {{"a", "b"}, {"a"}}, {{"a"}, {"a", "b"}}, {{""}, {"", ""}},
		{{"a b"}}, {{" "}}, {{"."}}, {{"a."}}, {{"a", "."}}, {{"a\x00"}}, {{"#"}}, {{"a/b"}}, {{`"`}}, {{`\`}}, {{"\n"}}, {{"\x7f"}}, {{name(api.MaxName + 1)}}, {{"", name(api.MaxName + 1)}}, {{name(100000)}},
		slices.Repeat(grid("a"), api.MaxAreas+1), slices.Repeat(grid("."), api.MaxAreas+1), grid(times(api.MaxAreas+1, "a")), grid(times(api.MaxAreas+1, ".")), slices.Repeat([][]string{nil}, 3), slices.Repeat([][]string{{}}, api.MaxAreas+1), {slices.Repeat([]string{""}, 1000)},
		grid("a b", "b a"), grid("a a", "a b"), grid("a a", "b a"), grid("a b", "a a"), grid("b a", "a a"), grid("a . a"), grid("a b a"), grid("a", ".", "a"), grid("a .", ". a"), grid(". a", "a ."), grid(". a", "a a"), grid("a a a", "a . a", "a a a"), grid("a a a", "a b a", "a a a"), grid("b b", "a a", "a ."), grid("a a .", ". a a"), grid(". a", "a .", "a ."), distinctButOne(),
	}
}

// distinctButOne are as many rows and cells as there may be, each cell with a name of its own, but for the last one, which has that of the first one.
func distinctButOne() [][]string {
	rows := distinct(api.MaxAreas, api.MaxAreas)
	rows[api.MaxAreas-1][api.MaxAreas-1] = rows[0][0]
	return rows
}

func TestGood(t *testing.T) { // P8.3, P8.4, P8.5
	for text, rows := range goodRows() {
		if !area.Good(rows) || area.Text(rows) != text || !area.Same(rows, rows) {
			t.Errorf("%.200q: %v, %.200q", rows, area.Good(rows), area.Text(rows))
		}
		reads(t, text, max(len(rows), 1), rows)
		reads(t, text+" x", max(len(rows), 1), rows)
	}
	if !area.Good([][]string{}) || area.Text([][]string{}) != "none" || len(area.Rects([][]string{})) != 0 || len(area.Rects(nil)) != 0 {
		t.Error("rows without one")
	}
	for _, rows := range wrongRows() {
		if area.Good(rows) || area.Text(rows) != "" || len(area.Rects(rows)) != 0 {
			t.Errorf("%.200q: %v, %.200q, %v", rows, area.Good(rows), area.Text(rows), area.Rects(rows))
		}
		if !area.Same(rows, rows) || area.Same(rows, nil) || area.Same(nil, rows) {
			t.Errorf("%.200q: the same", rows)
		}
	}
}

func TestRects(t *testing.T) { // P8.3
	for _, x := range []struct {
		rows [][]string
		want []api.Area
	}{
		{grid("a"), []api.Area{{Name: "a", Rows: 1, Cols: 1}}}, {grid("."), nil}, {grid(". .", ". ."), nil}, {grid(". .", ". a"), []api.Area{{Name: "a", Row: 1, Col: 1, Rows: 1, Cols: 1}}},
		{grid("z y", "x y"), []api.Area{{Name: "z", Rows: 1, Cols: 1}, {Name: "y", Col: 1, Rows: 2, Cols: 1}, {Name: "x", Row: 1, Rows: 1, Cols: 1}}},
		{grid(". . c c", "b a c c", "b . . d"), []api.Area{{Name: "c", Col: 2, Rows: 2, Cols: 2}, {Name: "b", Row: 1, Rows: 2, Cols: 1}, {Name: "a", Row: 1, Col: 1, Rows: 1, Cols: 1}, {Name: "d", Row: 2, Col: 3, Rows: 1, Cols: 1}}},
		{grid("a A"), []api.Area{{Name: "a", Rows: 1, Cols: 1}, {Name: "A", Col: 1, Rows: 1, Cols: 1}}},
		{slices.Repeat(grid(times(api.MaxAreas, "a")), api.MaxAreas), []api.Area{{Name: "a", Rows: api.MaxAreas, Cols: api.MaxAreas}}},
	} {
		if l := area.Rects(x.rows); !slices.Equal(l, x.want) {
			t.Errorf("%.200q: %v, not %v", x.rows, l, x.want)
		}
	}
	rows := distinct(api.MaxAreas, api.MaxAreas)
	l := area.Rects(rows)
	for i, a := range l {
		r, c := i/api.MaxAreas, i%api.MaxAreas
		if a != (api.Area{Name: rows[r][c], Row: r, Col: c, Rows: 1, Cols: 1}) {
			t.Fatal(i, a)
		}
	}
	if len(l) != api.MaxAreas*api.MaxAreas {
		t.Error(len(l))
	}
}

// rectangles tells the areas of rows, and whether each name's cells fill one, by asking of each two cells of a name whether all between have it.
func rectangles(rows [][]string) ([]api.Area, bool) {
	var list []api.Area
	for r, cells := range rows {
		for c, name := range cells {
			if name == "" || slices.ContainsFunc(list, func(a api.Area) bool { return a.Name == name }) {
				continue
			}
			a := api.Area{Name: name, Row: r, Col: c}
			for r+a.Rows < len(rows) && rows[r+a.Rows][c] == name {
				a.Rows++
			}
			for c+a.Cols < len(cells) && cells[c+a.Cols] == name {
				a.Cols++
			}
			list = append(list, a)
			for i, other := range rows {
				for j, s := range other {
					if within := r <= i && i < r+a.Rows && c <= j && j < c+a.Cols; within != (s == name) {
						return nil, false
					}
				}
			}
		}
	}
	return list, true
}

func TestAllSmallGrids(t *testing.T) { // P8.2 to P8.6
	names := []string{"", "a", "b", "c"}
	for _, size := range [][2]int{{1, 1}, {1, 5}, {5, 1}, {2, 3}, {3, 2}, {2, 4}} {
		count := 1
		for range size[0] * size[1] {
			count *= len(names)
		}
		for code := range count {
			rows, words := make([][]string, size[0]), []api.Token(nil)
			for r := range rows {
				for range size[1] {
					rows[r] = append(rows[r], names[code%len(names)])
					code /= len(names)
				}
				text := ""
				for _, cell := range rows[r] {
					text += " " + cell + strings.Repeat(".", max(0, 1-len(cell)))
				}
				words = append(words, api.Token{Kind: api.TokString, Text: text})
			}
			small(t, rows, words)
		}
	}
}

// small asks all about rows, which the words are, too.
func small(t *testing.T, rows [][]string, words []api.Token) {
	t.Helper()
	list, right := rectangles(rows)
	if l := area.Rects(rows); area.Good(rows) != right || !slices.Equal(l, list) || (area.Text(rows) != "") != right {
		t.Fatalf("%q: %v, %v", rows, area.Good(rows), l)
	}
	read, n, e := area.Read(words, 0)
	if right && (!equal(read, rows) || n != len(rows) || e != api.OK) || !right && (len(read) != 0 || n != 0 || e != api.ErrSyntax) {
		t.Fatalf("%q: %q, %d, %d", rows, read, n, int(e))
	}
	if right {
		back(t, rows)
		apart(t, rows)
	}
}

// back asks whether the text of rows is read as they are.
func back(t *testing.T, rows [][]string) {
	t.Helper()
	l := words(t, area.Text(rows))
	if read, n, e := area.Read(l, 0); !equal(read, rows) || !area.Same(read, rows) || n != len(l)-1 || e != api.OK {
		t.Fatalf("%.200q: %.200q, %d, %d", area.Text(rows), read, n, int(e))
	}
}

// apart asks whether each cell that has a name is in the one area of that name, and no other cell in any.
func apart(t *testing.T, rows [][]string) {
	t.Helper()
	list := area.Rects(rows)
	for r, cells := range rows {
		for c, name := range cells {
			in := ""
			for _, a := range list {
				if a.Row <= r && r < a.Row+a.Rows && a.Col <= c && c < a.Col+a.Cols {
					in += a.Name + " "
				}
			}
			if in != strings.TrimPrefix(name+" ", " ") {
				t.Fatalf("%q: row %d, column %d is in %q", rows, r, c, in)
			}
		}
	}
}

func TestBack(t *testing.T) { // P8.5, P8.6
	for _, rows := range goodRows() {
		back(t, rows)
		apart(t, rows)
	}
	most := distinct(api.MaxAreas, api.MaxAreas)
	back(t, most)
	apart(t, most)
	for c := range 256 {
		for _, s := range []string{string([]byte{byte(c)}), string([]byte{'a', byte(c)}), string([]byte{byte(c), '1'})} {
			if rows := [][]string{{s, ""}, {s, "b"}}; area.Good(rows) {
				back(t, rows)
			}
		}
	}
}

func TestGreatest(t *testing.T) { // P8.5: the longest names in the greatest rows have more bytes than a document may, so their words are made here
	rows := distinct(api.MaxAreas, api.MaxAreas)
	var l []api.Token
	for _, cells := range rows {
		for i := range cells {
			cells[i] += strings.Repeat("-", api.MaxName-len(cells[i]))
		}
		text := strings.Join(cells, " ")
		l = append(l, words(t, `"`+text+`"`)[0])
	}
	if read, n, e := area.Read(l, 0); !equal(read, rows) || n != api.MaxAreas || e != api.OK || !area.Good(rows) || len(area.Text(rows)) != api.MaxAreas*(api.MaxAreas*(api.MaxName+1)+2)-1 {
		t.Errorf("%d, %d, %v, %d", n, int(e), area.Good(rows), len(area.Text(rows)))
	}
}

func TestSame(t *testing.T) { // P8.4
	different := [][][]string{
		nil, {{}}, {{}, {}}, grid("a"), grid("b"), grid("A"), grid("."), grid("a a"), grid("a", "a"), grid("a ."), grid(". a"), grid("a b", "c d"), grid("a b", "c e"), grid("a b", "c ."), grid("a b"), grid("c d", "a b"), grid("a b", "c d", "e f"), {{"a", "b", "c", "d"}}, {{"a"}, {"b", "c", "d"}}, {{"a", "b", "c"}, {"d"}}, {{"a b"}, {"c d"}}, {{"a"}, {}}, {{}, {"a"}}, {{"."}}, {{" "}}, {{"a\x00"}}, {{name(api.MaxName + 1)}}, {{name(api.MaxName)}}, grid("a b", "b a"),
	}
	for i, a := range different {
		for j, b := range different {
			if area.Same(a, b) != (i == j) {
				t.Errorf("%q and %q: %v", a, b, area.Same(a, b))
			}
		}
	}
	if !area.Same(nil, [][]string{}) || !area.Same([][]string{nil}, [][]string{{}}) || !area.Same([][]string{{"a"}, nil}, [][]string{{"a"}, {}}) || !area.Same(grid("a b", "c d"), grid("a b", "c d")) {
		t.Error("lists without an element")
	}
}

func TestUnchanged(t *testing.T) { // rules 4 and 8: neither changed, nor read behind its length
	whole := grid("a a .", "b . .", "b c d", "# b a")
	rows := [][]string{whole[0][:2:3], whole[1][:2], whole[2][:2]}
	if !area.Good(rows[:2]) || area.Text(rows[:2]) != `"a a" "b ."` || len(area.Rects(rows[:2])) != 2 || !area.Same(rows[:1], grid("a a")) || area.Good(whole) || area.Text(whole[:3]) != `"a a ." "b . ." "b c d"` {
		t.Error(area.Text(rows[:2]), area.Text(whole[:3]))
	}
	if !equal(whole, grid("a a .", "b . .", "b c d", "# b a")) {
		t.Error(whole)
	}
	l := words(t, "'a . b' 'a' '#'")
	ahead := slices.Clone(l)
	read, n, e := area.Read(l[:1], 0)
	if !equal(read, grid("a . b")) || n != 1 || e != api.OK || !slices.Equal(l, ahead) {
		t.Error(read, n, int(e), l)
	}
	both, _, _ := area.Read(words(t, "'a b' 'a b'"), 0)
	both[0] = append(both[0], "x")
	both[0][0] = "y"
	if !equal(both[1:], grid("a b")) {
		t.Error("rows share memory", both)
	}
}
