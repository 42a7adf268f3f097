package box_test

import (
	"math"
	"slices"
	"strconv"
	"strings"
	"testing"

	"parterre/api"
	"parterre/box"
	"parterre/token"
	"parterre/value"
)

func px(n int) api.Len { return api.Len{Kind: api.LenPx, N: n * api.Unit} }

func units(n int) api.Len { return api.Len{Kind: api.LenPx, N: n} }

func mille(n int) api.Len { return api.Len{Kind: api.LenPct, N: n} }

func auto() api.Len { return api.Len{Kind: api.LenAuto} }

// words tells the words of a text.
func words(t *testing.T, s string) []api.Token {
	t.Helper()
	l, _, e := token.Tokens([]byte(s))
	if e != api.OK {
		t.Fatalf("%.60q: %d", s, int(e))
	}
	return l
}

// surroundings yields the words of a text as they may be handed in: alone, without an end, with other words ahead; and the place where they begin.
func surroundings(t *testing.T, s string) func(yield func([]api.Token, int) bool) {
	t.Helper()
	l := words(t, s)
	ahead := words(t, "1px start 2em /")[:4]
	return func(yield func([]api.Token, int) bool) {
		_ = yield(l, 0) && yield(l[:len(l)-1:len(l)-1], 0) && yield(append(ahead, l...), 4)
	}
}

// noPlaces are places that n words don't have.
func noPlaces(n int) []int { return []int{math.MinInt, -2, -1, n, n + 1, math.MaxInt - 1, math.MaxInt} }

// foreignSizes are words of which value tells another error than ErrSyntax, whatever is allowed.
func foreignSizes() map[string]api.Errno {
	return map[string]api.Errno{
		"2em": api.ErrFeature, "1REM": api.ErrFeature, "0pt": api.ErrFeature, "calc(": api.ErrFeature, "min(": api.ErrFeature, "var(": api.ErrFeature,
		"inherit": api.ErrFeature, "INITIAL": api.ErrFeature, "unset": api.ErrFeature, "revert": api.ErrFeature,
		"1e99px": api.ErrOver, "1073741824.015625px": api.ErrOver, "-1e99px": api.ErrOver,
	}
}

// noSizes are words that are no size of margins, gaps and boxes: they end lists.
func noSizes() []string {
	return []string{
		"/", ",", ";", "}", "none", "min-content", "max-content", "Max-Content", "1fr", "0fr", "2", "-1", "1.5", "1s", "a", "'1px'", "px", "start", "minmax(", "fit-content(", "auto(",
		strings.Repeat("0", 300) + "1px",
	}
}

func margin(t, r, b, l api.Len) [4]api.Len { return [4]api.Len{t, r, b, l} }

func TestExample(t *testing.T) {
	if m, n, e := box.Margin(words(t, "1px 2px"), 0); m != margin(px(1), px(2), px(1), px(2)) || n != 2 || e != api.OK {
		t.Error(m, n, int(e))
	}
	w, n, e := box.Words(words(t, "10px 5px, 3px 3px / 2px 2px"), 0)
	want := [][]api.Box{{{W: 640, H: 320}, {W: 192, H: 192}}, {{W: 128, H: 128}}}
	if !box.WordsSame(w, want) || n != 8 || e != api.OK {
		t.Error(w, n, int(e))
	}
}

func marginReads(t *testing.T, s string, next int, want [4]api.Len) {
	t.Helper()
	for l, at := range surroundings(t, s) {
		if m, n, e := box.Margin(l, at); m != want || n != at+next || e != api.OK || !box.MarginGood(m) {
			t.Errorf("Margin of %.80q at %d: %v, %d, %d; not %v, %d", s, at, m, n, int(e), want, at+next)
		}
	}
}

func marginFails(t *testing.T, s string, place int, want api.Errno) {
	t.Helper()
	for l, at := range surroundings(t, s) {
		if m, n, e := box.Margin(l, at); m != ([4]api.Len{}) || n != at+place || e != want {
			t.Errorf("Margin of %.80q at %d: %v, %d, %d; not %d, %d", s, at, m, n, int(e), at+place, int(want))
		}
	}
}

func TestMargin(t *testing.T) { // P9.1
	one, two, three, four := px(1), px(2), px(3), px(4)
	marginReads(t, "1px", 1, margin(one, one, one, one))
	marginReads(t, "1px 2px", 2, margin(one, two, one, two))
	marginReads(t, "1px 2px 3px", 3, margin(one, two, three, two))
	marginReads(t, "1px 2px 3px 4px", 4, margin(one, two, three, four))
	marginReads(t, "1px 2px 3px 4px 5px", 4, margin(one, two, three, four))
	marginReads(t, "4PX 3Px/**/2px\t1px", 4, margin(four, three, two, one))
	marginReads(t, "auto -5% 0 -0.015625px", 4, margin(auto(), mille(-5000), px(0), units(-1)))
	marginReads(t, "AUTO", 1, margin(auto(), auto(), auto(), auto()))
	marginReads(t, "-0 +1px", 2, margin(px(0), one, px(0), one))
	marginReads(t, "1073741824px -1073741824px 1073741.824% -1073741.824%", 4, margin(units(api.MaxPx), units(-api.MaxPx), mille(api.MaxMille), mille(-api.MaxMille)))
}

func TestMarginEnds(t *testing.T) { // P9.1: the word at which it ends, and what is told of one that is wrong
	marginFails(t, "", 0, api.ErrSyntax)
	for _, end := range noSizes() {
		marginFails(t, end, 0, api.ErrSyntax)
		marginReads(t, "1px "+end, 1, margin(px(1), px(1), px(1), px(1)))
		marginReads(t, "1px 2px "+end+" 3px", 2, margin(px(1), px(2), px(1), px(2)))
		marginReads(t, "1px 2px auto "+end, 3, margin(px(1), px(2), auto(), px(2)))
		marginReads(t, "1px 2px 3px 4px "+end, 4, margin(px(1), px(2), px(3), px(4)))
	}
	foreign := foreignSizes()
	foreign["1e99%"], foreign["-1e99%"], foreign["1073741.825%"], foreign["-1073741.825%"], foreign["-1073741824.015625px"] = api.ErrOver, api.ErrOver, api.ErrOver, api.ErrOver, api.ErrOver
	for s, e := range foreign {
		marginFails(t, s, 0, e)
		marginFails(t, s+" 1px", 0, e)
		marginFails(t, "1px "+s, 1, e)
		marginFails(t, "1px auto "+s+" 2px", 2, e)
		marginFails(t, "1px 2px 3px "+s, 3, e)
		marginReads(t, "1px 2px 3px 4px "+s, 4, margin(px(1), px(2), px(3), px(4)))
		marginReads(t, "1px / "+s, 1, margin(px(1), px(1), px(1), px(1)))
	}
}

// marginSizes are sizes that a margin may have.
func marginSizes() []api.Len {
	return []api.Len{
		px(0), px(1), px(-1), units(1), units(-1), units(api.MaxPx), units(-api.MaxPx), auto(),
		mille(0), mille(1), mille(-1), mille(50000), mille(api.MaxMille), mille(-api.MaxMille),
	}
}

// wrongSizes are sizes that neither a margin nor a gap may have.
func wrongSizes() []api.Len {
	l := []api.Len{
		{}, {N: 1}, {Kind: 8}, {Kind: -1}, {Kind: math.MaxInt}, {Kind: math.MinInt, N: 1},
		{Kind: api.LenAuto, N: 1}, {Kind: api.LenAuto, N: -1}, {Kind: api.LenMin}, {Kind: api.LenMax}, {Kind: api.LenFr}, {Kind: api.LenFr, N: api.Mille}, {Kind: api.LenNone},
	}
	for _, n := range []int{api.MaxPx + 1, -api.MaxPx - 1, math.MaxInt, math.MinInt} {
		l = append(l, units(n), mille(n))
	}
	return append(l, mille(api.MaxMille+1), mille(-api.MaxMille-1))
}

func TestMarginGood(t *testing.T) { // P9.1
	for _, v := range marginSizes() {
		if m := margin(v, v, v, v); !box.MarginGood(m) || box.MarginText(m) != value.Text(v) {
			t.Errorf("%v: %v, %q", m, box.MarginGood(m), box.MarginText(m))
		}
	}
	for _, v := range wrongSizes() {
		for side := range 4 {
			m := margin(px(1), px(2), px(3), px(4))
			m[side] = v
			if box.MarginGood(m) || box.MarginText(m) != "" {
				t.Errorf("%v: %v, %q", m, box.MarginGood(m), box.MarginText(m))
			}
		}
		if m := margin(v, v, v, v); box.MarginGood(m) || box.MarginText(m) != "" {
			t.Errorf("%v: %v, %q", m, box.MarginGood(m), box.MarginText(m))
		}
	}
	if box.MarginGood([4]api.Len{}) || box.MarginText([4]api.Len{}) != "" {
		t.Error("margins of nothing")
	}
}

func TestMarginText(t *testing.T) { // P9.1, P9.5
	for _, x := range []struct {
		m    [4]api.Len
		want string
	}{
		{margin(px(1), px(1), px(1), px(1)), "1px"},
		{margin(px(1), px(2), px(1), px(2)), "1px 2px"},
		{margin(px(1), px(2), px(3), px(2)), "1px 2px 3px"},
		{margin(px(1), px(2), px(3), px(4)), "1px 2px 3px 4px"},
		{margin(px(1), px(1), px(2), px(1)), "1px 1px 2px"},
		{margin(px(1), px(1), px(1), px(2)), "1px 1px 1px 2px"},
		{margin(px(2), px(1), px(1), px(1)), "2px 1px 1px"},
		{margin(px(1), px(2), px(1), px(1)), "1px 2px 1px 1px"},
		{margin(px(1), px(2), px(2), px(1)), "1px 2px 2px 1px"},
		{margin(px(0), mille(0), px(0), mille(0)), "0px 0%"},
		{margin(auto(), auto(), auto(), auto()), "auto"},
		{margin(mille(-5000), auto(), units(-1), auto()), "-5% auto -0.015625px"},
	} {
		if got := box.MarginText(x.m); got != x.want {
			t.Errorf("%v: %q, not %q", x.m, got, x.want)
		}
	}
}

// TestMarginFewest goes through all margins of three sizes: the text is the shortest list of the sizes that is read as them.
func TestMarginFewest(t *testing.T) { // P9.1, P9.5
	three := []api.Len{px(1), mille(-2), auto()}
	for i := range 81 {
		m := margin(three[i%3], three[i/3%3], three[i/9%3], three[i/27])
		var texts []string
		for _, v := range m {
			texts = append(texts, value.Text(v))
			if read, _, e := box.Margin(words(t, strings.Join(texts, " ")), 0); e == api.OK && read == m {
				break
			}
		}
		if got := box.MarginText(m); got != strings.Join(texts, " ") {
			t.Errorf("%v: %q, not %q", m, got, texts)
		}
		marginReads(t, box.MarginText(m), len(texts), m)
	}
	for _, a := range marginSizes() {
		for _, b := range marginSizes() {
			m := margin(a, b, auto(), a)
			marginReads(t, box.MarginText(m), len(words(t, box.MarginText(m)))-1, m)
		}
	}
}

func gapReads(t *testing.T, s string, next int, row, col api.Len) {
	t.Helper()
	for l, at := range surroundings(t, s) {
		if r, c, n, e := box.Gap(l, at); r != row || c != col || n != at+next || e != api.OK {
			t.Errorf("Gap of %.80q at %d: %v, %v, %d, %d; not %v, %v, %d", s, at, r, c, n, int(e), row, col, at+next)
		}
	}
}

func gapFails(t *testing.T, s string, place int, want api.Errno) {
	t.Helper()
	for l, at := range surroundings(t, s) {
		if r, c, n, e := box.Gap(l, at); r != (api.Len{}) || c != (api.Len{}) || n != at+place || e != want {
			t.Errorf("Gap of %.80q at %d: %v, %v, %d, %d; not %d, %d", s, at, r, c, n, int(e), at+place, int(want))
		}
	}
}

func TestGap(t *testing.T) { // P9.1
	gapReads(t, "1px", 1, px(1), px(1))
	gapReads(t, "1px 2px", 2, px(1), px(2))
	gapReads(t, "1px 2px 3px", 2, px(1), px(2))
	gapReads(t, "0 10%", 2, px(0), mille(10000))
	gapReads(t, "1073741824px 1073741.824%", 2, units(api.MaxPx), mille(api.MaxMille))
	gapReads(t, "0% -0px", 2, mille(0), px(0))
	gapFails(t, "", 0, api.ErrSyntax)
	for _, end := range append(noSizes(), "auto", "AUTO", "-1px", "-0.015625px", "-1%", "-1073741824px", "-1073741.825%") {
		gapFails(t, end, 0, api.ErrSyntax)
		gapReads(t, "1px "+end, 1, px(1), px(1))
		gapReads(t, "1% "+end+" 2px", 1, mille(1000), mille(1000))
		gapReads(t, "1px 2px "+end, 2, px(1), px(2))
	}
	foreign := foreignSizes()
	foreign["1e99%"], foreign["1073741.825%"] = api.ErrOver, api.ErrOver
	for s, e := range foreign {
		gapFails(t, s, 0, e)
		gapFails(t, s+" 1px", 0, e)
		gapFails(t, "1px "+s, 1, e)
		gapFails(t, "1px "+s+" 2px", 1, e)
		gapReads(t, "1px 2% "+s, 2, px(1), mille(2000))
		gapReads(t, "1px / "+s, 1, px(1), px(1))
	}
}

func TestGapText(t *testing.T) { // P9.1, P9.5
	good := []api.Len{px(0), px(1), units(1), units(api.MaxPx), mille(0), mille(1), mille(10000), mille(api.MaxMille)}
	for _, row := range good {
		for _, col := range good {
			want, count := value.Text(row)+" "+value.Text(col), 2
			if row == col {
				want, count = value.Text(row), 1
			}
			if got := box.GapText(row, col); got != want {
				t.Errorf("%v, %v: %q, not %q", row, col, got, want)
			}
			gapReads(t, box.GapText(row, col), count, row, col)
		}
	}
	for _, v := range append(wrongSizes(), auto(), px(-1), units(-1), mille(-1), units(-api.MaxPx), mille(-api.MaxMille)) {
		if a, b, c := box.GapText(v, v), box.GapText(px(1), v), box.GapText(v, px(1)); a+b+c != "" {
			t.Errorf("%v: %q, %q, %q", v, a, b, c)
		}
	}
	if got := box.GapText(px(0), mille(0)); got != "0px 0%" {
		t.Errorf("%q", got)
	}
}

func orderIs(t *testing.T, s string, want int, next int, wantE api.Errno) {
	t.Helper()
	for l, at := range surroundings(t, s) {
		if v, n, e := box.Order(l, at); v != want || n != at+next || e != wantE {
			t.Errorf("Order of %.80q at %d: %d, %d, %d; not %d, %d, %d", s, at, v, n, int(e), want, at+next, int(wantE))
		}
	}
}

func TestOrder(t *testing.T) { // P9.3
	for _, n := range []int{0, 1, -1, 3, -3, 42, api.MaxOrder - 1, api.MaxOrder, -api.MaxOrder + 1, -api.MaxOrder} {
		orderIs(t, strconv.Itoa(n), n, 1, api.OK)
		orderIs(t, strconv.Itoa(n)+" 5;", n, 1, api.OK)
	}
	orderIs(t, "+007", 7, 1, api.OK)
	orderIs(t, "-0", 0, 1, api.OK)
	orderIs(t, "1 99999999999999999999", 1, 1, api.OK)
	for _, n := range []int{api.MaxOrder + 1, -api.MaxOrder - 1, 1 << 30, api.MaxPx, api.MaxPx + 1, -api.MaxPx, -api.MaxPx - 1, math.MaxInt, math.MinInt} {
		orderIs(t, strconv.Itoa(n), 0, 0, api.ErrLimit)
	}
	for _, s := range []string{"99999999999999999999", "-99999999999999999999", strings.Repeat("9", 300), "-" + strings.Repeat("9", 299)} {
		orderIs(t, s, 0, 0, api.ErrLimit)
	}
	for _, s := range []string{"", "1.0", "1e1", "1e99", "1px", "1%", "a", "'1'", "/", "auto", "inherit", "2em", "calc(", "--1", strings.Repeat("0", 300) + "1", strings.Repeat("9", 301)} {
		orderIs(t, s, 0, 0, api.ErrSyntax)
	}
}

func TestPlaces(t *testing.T) { // P9.1 to P9.4: a place that is none counts as that of an end
	ended := words(t, "1px 2px , 3 start none")
	for _, l := range [][]api.Token{nil, {}, ended, ended[:6], ended[:1]} {
		for _, at := range noPlaces(len(l)) {
			if m, n, e := box.Margin(l, at); m != ([4]api.Len{}) || n != at || e != api.ErrSyntax {
				t.Errorf("Margin at %d of %d: %v, %d, %d", at, len(l), m, n, int(e))
			}
			if r, c, n, e := box.Gap(l, at); r != (api.Len{}) || c != (api.Len{}) || n != at || e != api.ErrSyntax {
				t.Errorf("Gap at %d of %d: %v, %v, %d, %d", at, len(l), r, c, n, int(e))
			}
			for _, set := range []int{box.Self, box.Items, box.Content, 0, 4} {
				if k, n, e := box.Align(l, at, set); k != 0 || n != at || e != api.ErrSyntax {
					t.Errorf("Align at %d of %d: %d, %d, %d", at, len(l), k, n, int(e))
				}
			}
			if v, n, e := box.Order(l, at); v != 0 || n != at || e != api.ErrSyntax {
				t.Errorf("Order at %d of %d: %d, %d, %d", at, len(l), v, n, int(e))
			}
			if w, n, e := box.Words(l, at); len(w) != 0 || n != at || e != api.ErrSyntax {
				t.Errorf("Words at %d of %d: %v, %d, %d", at, len(l), w, n, int(e))
			}
		}
	}
}

func TestForeignWords(t *testing.T) { // P9.1 to P9.4: words that no bytes make
	for _, word := range []api.Token{
		{}, {Kind: 9, Text: "start"}, {Kind: -1, Num: "1"}, {Kind: math.MinInt}, {Kind: api.TokEnd, Text: "start", Num: "1"}, {Kind: api.TokSign, Text: "none"}, {Kind: api.TokSign, Text: "baseline"}, {Kind: api.TokString, Text: "auto"}, {Kind: api.TokFunc, Text: "start"}, {Kind: api.TokFunc, Text: "baseline"},
		{Kind: api.TokIdent}, {Kind: api.TokIdent, Num: "1"}, {Kind: api.TokNum, Num: "a"}, {Kind: api.TokNum, Num: "--1"}, {Kind: api.TokDim, Num: "abc", Text: "px"}, {Kind: api.TokDim, Text: "px"}, {Kind: api.TokDim, Num: "1", Text: "auto"}, {Kind: api.TokPct, Num: "x"},
	} {
		l := []api.Token{{Kind: api.TokDim, Num: "1", Text: "px"}, word}
		if m, n, e := box.Margin(l, 0); m != margin(px(1), px(1), px(1), px(1)) || n != 1 || e != api.OK {
			t.Errorf("Margin with %v: %v, %d, %d", word, m, n, int(e))
		}
		if m, n, e := box.Margin(l, 1); m != ([4]api.Len{}) || n != 1 || e != api.ErrSyntax {
			t.Errorf("Margin of %v: %v, %d, %d", word, m, n, int(e))
		}
		if r, c, n, e := box.Gap(l, 0); r != px(1) || c != px(1) || n != 1 || e != api.OK {
			t.Errorf("Gap with %v: %v, %v, %d, %d", word, r, c, n, int(e))
		}
		if k, n, e := box.Align(l, 1, box.Self); k != 0 || n != 1 || e != api.ErrSyntax {
			t.Errorf("Align of %v: %d, %d, %d", word, k, n, int(e))
		}
		if v, n, e := box.Order(l, 1); v != 0 || n != 1 || e != api.ErrSyntax {
			t.Errorf("Order of %v: %d, %d, %d", word, v, n, int(e))
		}
		if w, n, e := box.Words(l, 0); len(w) != 0 || n != 1 || e != api.ErrSyntax {
			t.Errorf("Words with %v: %v, %d, %d", word, w, n, int(e))
		}
	}
}

func TestGivenStays(t *testing.T) { // rules 4 and 8: what is handed in is not changed, and nothing behind it is read
	l := words(t, "1px 2px, 3px 4px / 5px 6px 7px")
	kept := slices.Clone(l)
	if m, n, e := box.Margin(l[:1], 0); m != margin(px(1), px(1), px(1), px(1)) || n != 1 || e != api.OK {
		t.Error(m, n, int(e))
	}
	if r, c, n, e := box.Gap(l[:1], 0); r != px(1) || c != px(1) || n != 1 || e != api.OK {
		t.Error(r, c, n, int(e))
	}
	if w, n, e := box.Words(l[:2], 0); box.WordsText(w) != "1px 2px" || n != 2 || e != api.OK {
		t.Error(w, n, int(e))
	}
	first, _, _ := box.Words(l, 0)
	second, _, _ := box.Words(l, 0)
	text := box.WordsText(first)
	box.WordsSame(first, second)
	first[0][0].W, first[0][1].H = -1, -1
	_ = append(first[0], api.Box{W: -1})
	if box.WordsText(second) != text || box.WordsText(first[1:]) != "5px 6px" || !slices.Equal(l, kept) {
		t.Error("what was told before has changed", second, first, l)
	}
}
