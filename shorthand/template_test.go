package shorthand_test

import (
	"math/rand"
	"slices"
	"strings"
	"testing"

	"parterre/api"
	"parterre/area"
	"parterre/shorthand"
	"parterre/track"
)

// trackCount tells how many pieces are no names.
func trackCount(l []api.Piece) int {
	count := 0
	for _, p := range l {
		if p.Kind != api.PieceNames {
			count++
		}
	}
	return count
}

// templateIs asks whether Template tells what these texts are read as, and so many words.
func templateIs(t *testing.T, s string, next int, rows, cols, areas string) {
	t.Helper()
	for l, at := range surroundings(t, s) {
		kept := slices.Clone(l)
		r, c, a, n, e := shorthand.Template(l, at)
		if e != api.OK || n != at+next || track.Text(r) != rows || track.Text(c) != cols || area.Text(a) != areas {
			t.Errorf("%.120q at %d: %q, %q, %q, %d, %d; not %q, %q, %q, %d", s, at, track.Text(r), track.Text(c), area.Text(a), n, int(e), rows, cols, areas, at+next)
		}
		isGood(t, s, r, c, a)
		if !slices.Equal(l, kept) {
			t.Errorf("%.120q: the words have changed", s)
		}
	}
}

// isGood asks what P10.4 says of what is read.
func isGood(t *testing.T, s string, rows, cols []api.Piece, areas [][]string) {
	t.Helper()
	if !track.Good(rows) || !track.Good(cols) || !area.Good(areas) || len(areas) > 0 && trackCount(rows) != len(areas) {
		t.Errorf("%.120q: %v, %v, %v", s, rows, cols, areas)
	}
}

func templateFails(t *testing.T, s string, place int, want api.Errno) {
	t.Helper()
	for l, at := range surroundings(t, s) {
		if r, c, a, n, e := shorthand.Template(l, at); len(r)+len(c)+len(a) != 0 || n != at+place || e != want {
			t.Errorf("%.120q at %d: %v, %v, %v, %d, %d; not %d, %d", s, at, r, c, a, n, int(e), at+place, int(want))
		}
	}
}

// repeated tells so many of a text with a blank between.
func repeated(s string, count int) string {
	return strings.Join(slices.Repeat([]string{s}, count), " ")
}

func TestExample(t *testing.T) {
	templateIs(t, `[a] "x x" 10px [b] [c] "y ." / 1fr 2fr`, 15, "[a] 10px [b c] auto", "1fr 2fr", `"x x" "y ."`)
	_, _, areas, _, _ := shorthand.Template(words(t, `[a] "x x" 10px [b] [c] "y ." / 1fr 2fr`), 0)
	if got := area.Rects(areas); !slices.Equal(got, []api.Area{{Name: "x", Rows: 1, Cols: 2}, {Name: "y", Row: 1, Rows: 1, Cols: 1}}) {
		t.Error(got)
	}
}

func TestBoth(t *testing.T) { // P10.3: rows and columns
	for _, x := range []struct {
		s          string
		next       int
		rows, cols string
	}{
		{"none", 1, "none", "none"}, {"NONE", 1, "none", "none"}, {"none;", 1, "none", "none"}, {"none 10px", 1, "none", "none"}, {"none none", 1, "none", "none"}, {"none 'a'", 1, "none", "none"}, {"none 2em", 1, "none", "none"}, {"none [a]", 1, "none", "none"}, {"none, / 1px", 1, "none", "none"},
		{"none / none", 3, "none", "none"}, {"none / 1px", 3, "none", "1px"}, {"1px / none", 3, "1px", "none"}, {"None / repeat(auto-fit, 1px)", 7, "none", "repeat(auto-fit, 1px)"},
		{"1px / 2px", 3, "1px", "2px"}, {"1px/2px/3px", 3, "1px", "2px"}, {"1px / 2px 3px; 4px", 4, "1px", "2px 3px"}, {"1px / none 2px", 3, "1px", "none"}, {"1px / 2px 'a'", 3, "1px", "2px"}, {"1px / 2px 2em", 3, "1px", "2px"},
		{"[a] 1px [b] / [c] 2fr [d]", 15, "[a] 1px [b]", "[c] 2fr [d]"},
		{"[a b] [] 1px / [] 2px []", 13, "[a b] 1px", "2px"},
		{"repeat(2, 1fr [a]) minmax(0, 1fr) / fit-content(10%) repeat(3, 5px)", 22, "repeat(2, 1fr [a]) minmax(0px, 1fr)", "fit-content(10%) repeat(3, 5px)"},
		{"repeat(auto-fill, 5px) / repeat(auto-fit, 6px)", 11, "repeat(auto-fill, 5px)", "repeat(auto-fit, 6px)"},
	} {
		templateIs(t, x.s, x.next, x.rows, x.cols, "none")
	}
}

func TestBothErrors(t *testing.T) { // P10.3: rows and columns
	for _, x := range []struct {
		s     string
		place int
		e     api.Errno
	}{
		{"", 0, api.ErrSyntax}, {"/", 0, api.ErrSyntax}, {"/ 1px", 0, api.ErrSyntax}, {"/ none", 0, api.ErrSyntax}, {"a", 0, api.ErrSyntax}, {"5", 0, api.ErrSyntax}, {"subgrid", 0, api.ErrFeature}, {"masonry / 1px", 0, api.ErrFeature}, {"inherit", 0, api.ErrFeature}, {"2em / 1px", 0, api.ErrFeature}, {"1e99px / 1px", 0, api.ErrOver}, {"-1px / 1px", 0, api.ErrSyntax},
		// no / where one must be
		{"10px", 1, api.ErrSyntax}, {"10px;", 1, api.ErrSyntax}, {"10px 20px", 2, api.ErrSyntax}, {"10px none", 1, api.ErrSyntax}, {"10px 'a'", 1, api.ErrSyntax}, {"10px 2em", 1, api.ErrSyntax}, {"10px inherit", 1, api.ErrSyntax}, {"[a] 10px [b], / 1px", 7, api.ErrSyntax}, {"[a] 10px 'a'", 4, api.ErrSyntax}, {"10px [a] 'a' / 1px", 4, api.ErrSyntax},
		// no columns
		{"10px /", 2, api.ErrSyntax}, {"none /", 2, api.ErrSyntax}, {"10px / ;", 2, api.ErrSyntax}, {"none / 'a'", 2, api.ErrSyntax}, {"10px / / 1px", 2, api.ErrSyntax}, {"none / subgrid", 2, api.ErrFeature}, {"1px / 2em", 2, api.ErrFeature}, {"1px / 1e99px", 2, api.ErrOver}, {"1px / [a]", 5, api.ErrSyntax}, {"1px / [a 1] 1px", 4, api.ErrSyntax}, {"1px / [a] [b] 1px", 5, api.ErrSyntax}, {"1px / repeat(0, 1px)", 3, api.ErrSyntax}, {"1px / repeat(10001, 1px)", 3, api.ErrLimit}, {"1px / 1px repeat(auto-fill, 1fr)", 2, api.ErrSyntax},
		// rows' own errors, those of names that no string stands behind too
		{"[a]", 3, api.ErrSyntax}, {"[a] /", 3, api.ErrSyntax}, {"[]", 2, api.ErrSyntax}, {"[", 1, api.ErrSyntax}, {"[a 'x'", 2, api.ErrSyntax}, {"[span] 'x'", 1, api.ErrSyntax}, {"[a] [b] 1px / 1px", 3, api.ErrSyntax}, {"[a] [b]", 3, api.ErrSyntax}, {"[a] [b 1] 'x'", 5, api.ErrSyntax}, {"[a] [b", 5, api.ErrSyntax}, {"[a] [b] [c 1] 'x'", 3, api.ErrSyntax}, {"[a] none 'x'", 3, api.ErrSyntax}, {"minmax(1px) / 1px", 2, api.ErrSyntax}, {"repeat(auto-fill, 1fr) / 2em", 0, api.ErrSyntax}, {"1px 1px minmax(2em, 1px) / 1px", 3, api.ErrFeature},
		{"[" + repeated("a", 17) + "] 'x'", 17, api.ErrLimit}, {"[" + repeated("a", 16) + "] [b] 1px / 1px", 18, api.ErrSyntax}, {"[" + repeated("a", 16) + "] [b 1] 'x'", 20, api.ErrSyntax},
		{repeated("1px", 257) + " / 2em", 256, api.ErrLimit}, {"1px / " + repeated("1px", 257), 258, api.ErrLimit},
	} {
		templateFails(t, x.s, x.place, x.e)
	}
}

func TestPicture(t *testing.T) { // P10.3: a picture
	for _, x := range []struct {
		s                 string
		next              int
		rows, cols, areas string
	}{
		{"'a'", 1, "auto", "none", `"a"`}, {"'a';", 1, "auto", "none", `"a"`}, {"'none'", 1, "auto", "none", `"none"`}, {"'.'", 1, "auto", "none", `"."`}, {"'a' 'b'", 2, "auto auto", "none", `"a" "b"`},
		{"'a' 1px", 2, "1px", "none", `"a"`}, {"'a' 1px 'b'", 3, "1px auto", "none", `"a" "b"`}, {"'a' 'b' 1px", 3, "auto 1px", "none", `"a" "b"`},
		// names
		{"[a] 'x'", 4, "[a] auto", "none", `"x"`}, {"[a] [b] 'x'", 7, "[a b] auto", "none", `"x"`}, {"[a][][b c] 'x'", 10, "[a b c] auto", "none", `"x"`}, {"[] 'x'", 3, "auto", "none", `"x"`}, {"[] [] 'x' [] []", 9, "auto", "none", `"x"`},
		{"'x' [a]", 4, "auto [a]", "none", `"x"`}, {"'x' [a] [b]", 7, "auto [a b]", "none", `"x"`}, {"'x' 1px [a] [] [b]", 10, "1px [a b]", "none", `"x"`}, {"'x' [a] / 1px", 6, "auto [a]", "1px", `"x"`},
		{"'x' [a] 'y'", 5, "auto [a] auto", "none", `"x" "y"`}, {"'x' [a] [b] 'y'", 8, "auto [a b] auto", "none", `"x" "y"`}, {"'x' [] 'y'", 4, "auto auto", "none", `"x" "y"`}, {"'x' 1px [a] [b] 'y' 2px [c]", 13, "1px [a b] 2px [c]", "none", `"x" "y"`}, {"[a] [A] 'x' [a] [a] 'y' [a]", 17, "[a A] auto [a a] auto [a]", "none", `"x" "y"`},
		// each kind of size
		{"'a' 10% 'b' auto 'c' min-content 'd' max-content 'e' 2fr 'f' 0", 12, "10% auto min-content max-content 2fr 0px", "none", `"a" "b" "c" "d" "e" "f"`},
		{"'a' minmax(1px, 2fr) 'b' MinMax(auto, 1fr) 'c' fit-content(5%)", 16, "minmax(1px, 2fr) 1fr fit-content(5%)", "none", `"a" "b" "c"`},
		// what ends the lines
		{"'a' 1px 2px", 2, "1px", "none", `"a"`}, {"'a' 2em", 1, "auto", "none", `"a"`}, {"'a' 1e99px", 1, "auto", "none", `"a"`}, {"'a' -1px", 1, "auto", "none", `"a"`}, {"'a' none", 1, "auto", "none", `"a"`}, {"'a' inherit", 1, "auto", "none", `"a"`}, {"'a' repeat(2, 1px)", 1, "auto", "none", `"a"`}, {"'a' calc(", 1, "auto", "none", `"a"`}, {"'a' 5", 1, "auto", "none", `"a"`}, {"'a' [x] 1px", 4, "auto [x]", "none", `"a"`}, {"'a' 1px [x] 2px 'b'", 5, "1px [x]", "none", `"a"`}, {"'a' 1px 2px / 1px", 2, "1px", "none", `"a"`}, {"'a' [x], / 1px", 4, "auto [x]", "none", `"a"`}, {"'a' subgrid", 1, "auto", "none", `"a"`},
		// columns
		{"'a' / 1px", 3, "auto", "1px", `"a"`}, {"'a' 1px / 2px 3px", 5, "1px", "2px 3px", `"a"`}, {"'a' / [x] 1fr [y z] minmax(1px, 2px) [] []", 19, "auto", "[x] 1fr [y z] minmax(1px, 2px)", `"a"`}, {"'a' / 1px / 2px", 3, "auto", "1px", `"a"`}, {"'a' / 1px 'b'", 3, "auto", "1px", `"a"`}, {"'a b c' / 1px", 3, "auto", "1px", `"a b c"`}, {"'a' / 1px 2px 3px", 5, "auto", "1px 2px 3px", `"a"`}, {"'a' / 1px none", 3, "auto", "1px", `"a"`}, {"'a' / 1px 2em", 3, "auto", "1px", `"a"`},
		// areas
		{"'a a .' 'a a b'", 2, "auto auto", "none", `"a a ." "a a b"`}, {"'..a...b' 1px [n] ' .\ta  .. b '", 6, "1px [n] auto", "none", `". a . b" ". a . b"`},
	} {
		templateIs(t, x.s, x.next, x.rows, x.cols, x.areas)
	}
}

func TestPictureErrors(t *testing.T) { // P10.3: a picture
	for _, x := range []struct {
		s     string
		place int
		e     api.Errno
	}{
		// of track, as words are read
		{"'a' [1]", 2, api.ErrSyntax}, {"'a' [", 2, api.ErrSyntax}, {"'a' [b 'c'", 3, api.ErrSyntax}, {"'a' [auto]", 2, api.ErrSyntax}, {"'a' [x] [y auto] 'b'", 6, api.ErrSyntax}, {"[x] 'a' [y z,", 7, api.ErrSyntax}, {"'a' [" + repeated("x", 17) + "]", 18, api.ErrLimit},
		{"'a' minmax(", 2, api.ErrSyntax}, {"'a' minmax(1px 2px)", 3, api.ErrSyntax}, {"'a' minmax(1fr, 2px)", 2, api.ErrSyntax}, {"'a' minmax(1px, 2px 'b'", 5, api.ErrSyntax}, {"'a' minmax(2em, 1px)", 2, api.ErrFeature}, {"'a' minmax(1px, 1e99px)", 4, api.ErrOver}, {"'a' fit-content(auto)", 2, api.ErrSyntax}, {"'a' FIT-CONTENT(2em)", 2, api.ErrFeature}, {"'a' 1px 'b' minmax(", 4, api.ErrSyntax}, {"'a' minmax() [1]", 2, api.ErrSyntax}, {"'a' [1] 'b' minmax(2em", 2, api.ErrSyntax},
		// of area
		{"''", 0, api.ErrSyntax}, {"' '", 0, api.ErrSyntax}, {"'!'", 0, api.ErrSyntax}, {"[x] 'a!'", 3, api.ErrSyntax}, {"'a' ''", 1, api.ErrSyntax}, {"'a' 1px [x] 'b c'", 5, api.ErrSyntax}, {"'a b' 1px 'a' 'a b c'", 2, api.ErrSyntax}, {"'a' 1px '!' '?'", 2, api.ErrSyntax},
		{"'a b' 'b a'", 0, api.ErrSyntax}, {"[x] [y] 'a b' 1px 'b a'", 6, api.ErrSyntax}, {"'x' [n] 'y' 'x'", 0, api.ErrSyntax}, {"'x' 1px 'y' 1px 'x' '!'", 5, api.ErrSyntax}, {"[n] 'x x' 'x y'", 3, api.ErrSyntax},
		{"'" + strings.Repeat("n", 65) + "'", 0, api.ErrLimit}, {"'a' 1px '" + strings.Repeat("n", 65) + "'", 2, api.ErrLimit}, {"[x] '" + repeated(".", 65) + "'", 3, api.ErrLimit}, {repeated("'.' 1px", 65), 128, api.ErrLimit}, {repeated("'.'", 64) + " [x] '!'", 67, api.ErrSyntax}, {repeated("'.' 1px", 66), 128, api.ErrLimit},
		// of the columns
		{"'a' /", 2, api.ErrSyntax}, {"'a' / ;", 2, api.ErrSyntax}, {"'a' / none", 2, api.ErrSyntax}, {"'a' / NONE 1px", 2, api.ErrSyntax}, {"'a' / 'b'", 2, api.ErrSyntax}, {"'a' / / 1px", 2, api.ErrSyntax}, {"'a' / subgrid", 2, api.ErrFeature}, {"'a' / 2em", 2, api.ErrFeature}, {"'a' / 1e99px", 2, api.ErrOver}, {"'a' / []", 4, api.ErrSyntax}, {"'a' / [x] [y] 1px", 5, api.ErrSyntax}, {"'a' / 1px minmax(2em, 1px)", 4, api.ErrFeature}, {"'a' / " + repeated("1px", 257), 258, api.ErrLimit},
		{"'a' / repeat(2, 1px)", 2, api.ErrSyntax}, {"'a' / 1px repeat(2, 1px)", 2, api.ErrSyntax}, {"'a' / [x] 1px [y] repeat(2, 1px) 3px", 2, api.ErrSyntax}, {"'a' / 1px repeat(auto-fill, 1px)", 2, api.ErrSyntax}, {"'a' / 1px 1px repeat(auto-fit, 1px)", 2, api.ErrSyntax}, {"'a' / repeat(1, 1px) 1fr", 2, api.ErrSyntax},
		// of the columns' own ahead of their being repeats
		{"'a' / repeat(2, 2em)", 5, api.ErrFeature}, {"'a' / 1px repeat(10001, 1px)", 4, api.ErrLimit}, {"'a' / repeat(2, 1px) [x 1]", 9, api.ErrSyntax}, {"'a' / 1px repeat(auto-fill, 1fr)", 2, api.ErrSyntax}, {"'a' / 1px repeat(0, 1px)", 4, api.ErrSyntax},
	} {
		templateFails(t, x.s, x.place, x.e)
	}
}

func TestPictureOrder(t *testing.T) { // P10.3: words of lines go ahead of areas, these of columns
	full := "[" + repeated("n", 16) + "]"
	for _, x := range []struct {
		s     string
		place int
		e     api.Errno
	}{
		{"'!' minmax(2em, 1px) / 2em", 2, api.ErrFeature}, {"'!' [1] / 2em", 2, api.ErrSyntax}, {"'a b' 'c' fit-content(1e99px) [1]", 3, api.ErrOver}, {"'a b' 'b a' [x 1]", 4, api.ErrSyntax}, {repeated("'.'", 65) + " minmax(,", 66, api.ErrSyntax},
		{"'!' " + full + " [x] minmax(2em / 2em", 19, api.ErrLimit}, {full + "[x] '!' minmax(2em", 18, api.ErrLimit}, {"'!' minmax(2em) " + full + " [x]", 2, api.ErrFeature}, {"'!' " + full + " [x 1]", 21, api.ErrSyntax}, {"'a' " + full + "[x] [1]", 19, api.ErrLimit},
		{"'!' / 2em", 0, api.ErrSyntax}, {"'a' 1px '!' / none", 2, api.ErrSyntax}, {"'a' 'b c' / repeat(2, 1px)", 1, api.ErrSyntax}, {"[x] 'a b' 'b a' / 1e99px", 3, api.ErrSyntax}, {"'" + strings.Repeat("n", 65) + "' / 2em", 0, api.ErrLimit}, {"'!' /", 0, api.ErrSyntax},
		{"'a b' 'b a' '!'", 2, api.ErrSyntax}, {"'!' '" + strings.Repeat("n", 65) + "'", 0, api.ErrSyntax},
	} {
		templateFails(t, x.s, x.place, x.e)
	}
}

func TestPictureNames(t *testing.T) { // P10.3: MaxNames names and one more, which come together
	for first := range 17 {
		a, b := "["+repeated("a", first)+"]", "["+repeated("b", 16-first)+"]"
		names := strings.TrimSpace(repeated("a", first) + " " + repeated("b", 16-first))
		templateIs(t, a+b+"'x'", 21, "["+names+"] auto", "none", `"x"`)
		templateIs(t, "'x'"+a+b+"'y'", 22, "auto ["+names+"] auto", "none", `"x" "y"`)
		templateIs(t, "'x' 1px"+a+"[]"+b+"/ 1px", 26, "1px ["+names+"]", "1px", `"x"`)
		templateFails(t, a+b+"[c] 'x'", 20, api.ErrLimit)
		templateFails(t, "'x'"+a+b+"[c] 'y'", 21, api.ErrLimit)
		templateFails(t, "'x' 1px"+a+"[]"+b+"[c d] / 1px", 24, api.ErrLimit)
		templateFails(t, "'x' "+a+b+"[] [] [c]", 25, api.ErrLimit)
		if first > 0 {
			templateFails(t, "'x'"+a+"[b "+repeated("b", 16-first)+"] 'y'", first+3, api.ErrLimit)
		}
	}
	full := "[" + repeated("n", 16) + "]"
	templateIs(t, full+"'x' 1px"+full+"'y'"+full, 57, full+" 1px "+full+" auto "+full, "none", `"x" "y"`)
	templateIs(t, "'x'"+full+repeated("[]", 40), 99, "auto "+full, "none", `"x"`)
}

func TestPictureLimit(t *testing.T) { // P10.3, P10.4: as many lines and cells as there may be, with names at each line
	full := "[" + repeated("n", 16) + "]"
	row := "'" + repeated("a", 64) + "'"
	templateIs(t, repeated(full+" "+row, 64)+" "+full+" / 1px", 64*19+20, repeated(full+" auto", 64)+" "+full, "1px", repeated(strings.ReplaceAll(row, "'", `"`), 64))
	templateIs(t, "'a' / "+repeated("1px", 256), 258, "auto", repeated("1px", 256), `"a"`)
	name := strings.Repeat("n", 64)
	templateIs(t, "'"+name+"'", 1, "auto", "none", `"`+name+`"`)
}

// TestStrings asks of each row's text whether Template takes it as area does.
func TestStrings(t *testing.T) { // P10.3
	for c := range 256 {
		for _, text := range []string{string([]byte{byte(c)}), string([]byte{'a', byte(c), 'b'})} {
			list := []api.Token{{Kind: api.TokString, Text: text}, {Kind: api.TokString, Text: text}}
			rows, place, e := area.Read(list, 0)
			r, _, got, n, gotE := shorthand.Template(list, 0)
			if gotE != e || n != place || !area.Same(rows, got) || e == api.OK && track.Text(r) != "auto auto" {
				t.Errorf("%q: %v, %d, %d; not %v, %d, %d", text, got, n, int(gotE), rows, place, int(e))
			}
		}
	}
}

// chance makes templates and pictures, the same ones each time.
type chance struct{ *rand.Rand }

func (c chance) of(l ...string) string { return l[c.Intn(len(l))] }

func (c chance) names() string {
	return "[" + repeated(c.of("a", "b", `\31 `, "none", "x-y"), 1+c.Intn(3)) + "]"
}

func (c chance) size() string {
	return c.of("1px", "0px", "1.5px", "10%", "auto", "min-content", "max-content", "1fr", "0.5fr", "minmax(1px, 2fr)", "minmax(auto, 5%)", "fit-content(10px)", "fit-content(1%)")
}

// list tells tracks, with names here and there, as track's Text writes them.
func (c chance) list(size func() string) string {
	var parts []string
	for range 1 + c.Intn(4) {
		if c.Intn(2) == 0 {
			parts = append(parts, c.names())
		}
		parts = append(parts, size())
	}
	if c.Intn(2) == 0 {
		parts = append(parts, c.names())
	}
	return strings.Join(parts, " ")
}

func (c chance) template() string {
	repeat := func() string { return "repeat(" + c.of("1", "2", "10000") + ", " + c.list(c.size) + ")" }
	fixed := func() string { return c.of("1px", "10%", "minmax(2px, auto)", "repeat(2, 1px)") }
	switch c.Intn(4) {
	case 0:
		return "none"
	case 1:
		return c.list(c.size)
	case 2:
		return c.list(fixed) + " repeat(" + c.of("auto-fill", "auto-fit") + ", [f] 5px)"
	}
	return c.list(func() string { return c.of(c.size(), repeat()) })
}

func TestBothBack(t *testing.T) { // P10.4, P10.5
	c := chance{rand.New(rand.NewSource(1))}
	for range 3000 {
		rows, cols := c.template(), c.template()
		wantRows, _, e := track.Template(words(t, rows), 0)
		wantCols, _, f := track.Template(words(t, cols), 0)
		if e != api.OK || f != api.OK || track.Text(wantRows) != rows || track.Text(wantCols) != cols {
			t.Fatal(rows, cols, int(e), int(f))
		}
		l := words(t, track.Text(wantRows)+" / "+track.Text(wantCols))
		r, k, a, n, e := shorthand.Template(l, 0)
		if e != api.OK || n != len(l)-1 || len(a) != 0 || !track.Same(r, wantRows) || !track.Same(k, wantCols) {
			t.Errorf("%q / %q: %q, %q, %v, %d, %d", rows, cols, track.Text(r), track.Text(k), a, n, int(e))
		}
		isGood(t, rows+" / "+cols, r, k, a)
	}
}

// gathered adds names, as they may stand at one line of a picture, to its parts, and tells the piece that they are, with a blank behind it.
func (c chance) gathered(parts *[]string) string {
	var all []string
	for range c.Intn(3) {
		names := repeated(c.of("a", "b", "none"), c.Intn(3))
		*parts = append(*parts, "["+names+"]")
		all = append(all, strings.Fields(names)...)
	}
	if len(all) == 0 {
		return ""
	}
	return "[" + strings.Join(all, " ") + "] "
}

func TestPictureParts(t *testing.T) { // P10.3, P10.4: pictures put together by chance
	c := chance{rand.New(rand.NewSource(2))}
	for range 3000 {
		var parts, areas []string
		rows := ""
		for i := range 1 + c.Intn(4) {
			rows += c.gathered(&parts)
			row := c.of(". .", "r"+strings.Repeat("x", i)+" .")
			parts, areas = append(parts, "'"+row+"'"), append(areas, `"`+row+`"`)
			size := c.of("", c.size())
			parts = append(parts, size)
			if size == "" {
				size = "auto"
			}
			rows += size + " "
		}
		rows += c.gathered(&parts)
		cols := "none"
		if c.Intn(2) == 0 {
			cols = c.list(c.size)
			parts = append(parts, "/", cols)
		}
		s := strings.Join(parts, " ")
		templateIs(t, s, len(words(t, s))-1, strings.TrimSpace(rows), cols, strings.Join(areas, " "))
	}
}

func TestByChance(t *testing.T) { // P10.3, P10.4: words put together by chance, right ones and wrong ones
	c := chance{rand.New(rand.NewSource(3))}
	read := 0
	for range 60000 {
		var parts []string
		for range c.Intn(9) {
			parts = append(parts, c.of("'a'", "'a'", "'a b'", "'.'", "'!'", "[a]", "[b c]", "[]", "[", "]", "a", "1px", "1fr", "0", "/", "/", "none", "repeat(2,", "minmax(1px,", ")", "2em", ",", "inherit"))
		}
		s := strings.Join(parts, " ")
		l := words(t, s)
		rows, cols, areas, n, e := shorthand.Template(l, 0)
		if n < 0 || n >= len(l) || e != api.OK && len(rows)+len(cols)+len(areas) > 0 {
			t.Errorf("%q: %v, %v, %v, %d, %d", s, rows, cols, areas, n, int(e))
		}
		isGood(t, s, rows, cols, areas)
		if e == api.OK {
			read++
			templateIs(t, s, n, track.Text(rows), track.Text(cols), area.Text(areas))
		}
	}
	if read < 1000 {
		t.Error("only", read, "were read")
	}
}

func TestApart(t *testing.T) { // rules 4, 5 and 8: answers don't share what may be written, and nothing behind the words is read
	l := words(t, "[a] 'x' 1px [b] [c] 'y' [d] / [e] 1fr")
	r, c, a, _, _ := shorthand.Template(l, 0)
	r2, c2, a2, _, _ := shorthand.Template(l, 0)
	for _, p := range r {
		_ = append(p.Names, "z")
		for i := range p.Names {
			p.Names[i] = "z"
		}
	}
	c[0].Names[0], a[0][0] = "z", "z"
	if track.Text(r2) != "[a] 1px [b c] auto [d]" || track.Text(c2) != "[e] 1fr" || area.Text(a2) != `"x" "y"` {
		t.Error(track.Text(r2), track.Text(c2), area.Text(a2))
	}
	if r, c, a, n, e := shorthand.Template(l[:4], 0); track.Text(r) != "[a] auto" || len(c) != 0 || area.Text(a) != `"x"` || n != 4 || e != api.OK {
		t.Error(r, c, a, n, int(e))
	}
	if _, _, _, n, e := shorthand.Template(l[:3], 0); n != 3 || e != api.ErrSyntax {
		t.Error(n, int(e))
	}
}
