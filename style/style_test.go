package style_test

import (
	"math"
	"reflect"
	"slices"
	"strings"
	"testing"

	"parterre/api"
	"parterre/style"
)

func TestDefault(t *testing.T) { // P11.1
	s := style.Default()
	if !reflect.DeepEqual(s, atFirst()) || !style.Good(s) {
		t.Errorf("%v", unlike(s, atFirst()))
	}
	s.AutoRows[0] = api.Track{}
	if s.AutoCols[0] == s.AutoRows[0] || !reflect.DeepEqual(style.Default(), atFirst()) {
		t.Error("what was told is not apart")
	}
}

func TestNames(t *testing.T) { // P11.3
	if l := style.Names(); !slices.Equal(l, allProperties()) {
		t.Error(l)
	}
	style.Names()[0] = "changed"
	if l := style.Names(); !slices.Equal(l, allProperties()) {
		t.Error(l)
	}
}

// goodIs asks whether a style is good once one thing has been changed, of those that may be all alike.
func goodIs(t *testing.T, want bool, what string, change func(s *api.Style)) {
	t.Helper()
	for _, s := range []api.Style{atFirst(), rich()} {
		if !style.Good(s) {
			t.Fatal("a style that may be is not good")
		}
		change(&s)
		if style.Good(s) != want {
			t.Errorf("%s: good is not %v", what, want)
		}
	}
}

func TestGoodNothing(t *testing.T) { // P11.2
	if style.Good(api.Style{}) {
		t.Error("no style at all is good")
	}
}

func TestGoodTemplates(t *testing.T) { // P11.2
	track := sized(plain(px(1)))
	for name, part := range onTemplates() {
		ask := func(want bool, l ...api.Piece) {
			t.Helper()
			goodIs(t, want, name, func(s *api.Style) { *part(s) = l })
		}
		ask(true)
		ask(true, track)
		ask(true, slices.Repeat([]api.Piece{track}, api.MaxPieces)...)
		ask(false, slices.Repeat([]api.Piece{track}, api.MaxPieces+1)...)
		ask(false, named("x"))
		ask(false, api.Piece{})
		ask(false, sized(api.Track{}))
		ask(false, track, named("auto"))
		ask(false, filling(sized(flexible(1))))
		ask(true, repeated(api.MaxRepeat, track))
		ask(false, repeated(api.MaxRepeat+1, track))
	}
}

func TestGoodAreas(t *testing.T) { // P11.2
	ask := func(want bool, rows ...[]string) {
		t.Helper()
		goodIs(t, want, "areas", func(s *api.Style) { s.Areas = rows })
	}
	ask(true)
	ask(true, []string{"x", ""})
	ask(false, []string{})
	ask(false, []string{"x"}, []string{"x", "x"})
	ask(false, []string{"x", "y"}, []string{"y", "x"})
	ask(false, []string{"x y"})
	ask(true, slices.Repeat([][]string{{"x"}}, api.MaxAreas)...)
	ask(false, slices.Repeat([][]string{{"x"}}, api.MaxAreas+1)...)
}

func TestGoodAutoTracks(t *testing.T) { // P11.2
	for name, part := range map[string]func(s *api.Style) *[]api.Track{
		"AutoRows": func(s *api.Style) *[]api.Track { return &s.AutoRows },
		"AutoCols": func(s *api.Style) *[]api.Track { return &s.AutoCols },
	} {
		ask := func(want bool, l ...api.Track) {
			t.Helper()
			goodIs(t, want, name, func(s *api.Style) { *part(s) = l })
		}
		one := plain(px(1))
		ask(false)
		ask(false, []api.Track{}...)
		ask(true, one)
		ask(true, fitting(px(1)), flexible(0))
		ask(false, api.Track{})
		ask(false, one, api.Track{Min: fr(1), Max: fr(1)}, one)
		ask(false, one, one, plain(px(-1)))
		ask(false, api.Track{Min: px(1), Max: px(1), Limit: px(1)})
		ask(true, slices.Repeat([]api.Track{one}, api.MaxPieces)...)
		ask(false, slices.Repeat([]api.Track{one}, api.MaxPieces+1)...)
		ask(false, slices.Repeat([]api.Track{one}, 100000)...)
	}
}

func TestGoodFlow(t *testing.T) { // P11.2
	for i := range 4 {
		goodIs(t, true, "flow", func(s *api.Style) { s.Column, s.Dense = i&1 != 0, i&2 != 0 })
	}
}

func TestGoodSizes(t *testing.T) { // P11.2
	words := map[string][]api.Len{
		"auto": {auto()}, "min-content": {keyword(api.LenMin)}, "max-content": {keyword(api.LenMax)}, "none": {keyword(api.LenNone)},
		"-1px":  {px(-1), {Kind: api.LenPx, N: -1}, {Kind: api.LenPx, N: -api.MaxPx}},
		"-2.5%": {pct(-1), {Kind: api.LenPct, N: -1}, {Kind: api.LenPct, N: -api.MaxMille}},
	}
	for name, x := range sizeParts() {
		ask := func(want bool, l ...api.Len) {
			t.Helper()
			for _, v := range l {
				goodIs(t, want, name, func(s *api.Style) { *x.part(s) = v })
			}
		}
		for word, l := range words {
			ask(slices.Contains(strings.Fields(x.may), word), l...)
		}
		ask(true, px(0), api.Len{Kind: api.LenPx, N: api.MaxPx}, pct(0), api.Len{Kind: api.LenPct, N: api.MaxMille})
		for _, kind := range []int{api.LenPx, api.LenPct} {
			ask(false, api.Len{Kind: kind, N: math.MinInt}, api.Len{Kind: kind, N: math.MaxInt})
		}
		ask(false, api.Len{Kind: api.LenPx, N: api.MaxPx + 1}, api.Len{Kind: api.LenPx, N: -api.MaxPx - 1})
		ask(false, api.Len{Kind: api.LenPct, N: api.MaxMille + 1}, api.Len{Kind: api.LenPct, N: -api.MaxMille - 1})
		ask(false, fr(0), fr(1), api.Len{}, api.Len{Kind: -1}, api.Len{Kind: 8}, api.Len{Kind: math.MinInt})
		for kind := api.LenAuto; kind <= api.LenNone; kind++ {
			if kind != api.LenPx && kind != api.LenPct {
				ask(false, api.Len{Kind: kind, N: 1}, api.Len{Kind: kind, N: -1})
			}
		}
	}
}

func TestGoodAlignment(t *testing.T) { // P11.2
	for name, x := range alignParts() {
		for _, k := range []int{math.MinInt, -1, 0, 1, 2, 3, 4, 5, 6, 7, 8, 9, 10, math.MaxInt} {
			goodIs(t, x.first <= k && k <= x.last, name, func(s *api.Style) { *x.part(s) = k })
		}
	}
}

func TestGoodLines(t *testing.T) { // P11.2
	for name, part := range lineParts() {
		ask := func(want bool, l ...api.Line) {
			t.Helper()
			for _, v := range l {
				goodIs(t, want, name, func(s *api.Style) { *part(s) = v })
			}
		}
		ask(true, autoLine(), line(api.LineName, 0, "x"), line(api.LineNum, api.MaxLine, "x"), line(api.LineNum, -api.MaxLine, ""), line(api.LineSpan, api.MaxLine, ""), line(api.LineSpan, 1, "x"))
		ask(false, api.Line{}, line(api.LineAuto, 1, ""), line(api.LineAuto, 0, "x"), line(api.LineName, 0, ""), line(api.LineName, 1, "x"), line(api.LineName, 0, "span"))
		ask(false, line(api.LineNum, 0, ""), line(api.LineNum, api.MaxLine+1, ""), line(api.LineNum, -api.MaxLine-1, ""), line(api.LineSpan, 0, "x"), line(api.LineSpan, api.MaxLine+1, ""), line(5, 1, "x"))
	}
}

func TestGoodOrder(t *testing.T) { // P11.2
	for n, want := range map[int]bool{
		0: true, 1: true, -1: true, api.MaxOrder: true, -api.MaxOrder: true, api.MaxOrder + 1: false, -api.MaxOrder - 1: false,
		math.MaxInt: false, math.MinInt: false,
	} {
		goodIs(t, want, "order", func(s *api.Style) { s.Order = n })
	}
}

func TestGoodContent(t *testing.T) { // P11.2
	ask := func(want bool, l ...[]api.Box) {
		t.Helper()
		goodIs(t, want, "content", func(s *api.Style) { s.Content = l })
	}
	ask(true)
	ask(true, boxes(0, 0))
	ask(false, boxes(0, 0), nil)
	ask(false, boxes(-1, 0))
	ask(false, boxes(1, 0), []api.Box{{W: 0, H: api.MaxPx + 1}})
	ask(true, []api.Box{{W: api.MaxPx, H: api.MaxPx}})
	ask(true, slices.Repeat([][]api.Box{boxes(1, 1)}, api.MaxWords)...)
	ask(false, slices.Repeat([][]api.Box{boxes(1, 1)}, api.MaxWords+1)...)
}

// differences yields, of each place of a value, changes that make it another one, each with one that takes it back.
func differences(v reflect.Value, yield func(change, back func())) {
	switch v.Kind() {
	case reflect.Bool:
		flip := func() { v.SetBool(!v.Bool()) }
		yield(flip, flip)
	case reflect.Int:
		for _, by := range []int64{1, -1, 1 << 40} {
			yield(func() { v.SetInt(v.Int() + by) }, func() { v.SetInt(v.Int() - by) })
		}
	case reflect.String:
		old := v.String()
		yield(func() { v.SetString(old + "x") }, func() { v.SetString(old) })
		yield(func() { v.SetString(strings.ToUpper(old) + "X") }, func() { v.SetString(old) })
	case reflect.Struct:
		for i := range v.NumField() {
			differences(v.Field(i), yield)
		}
	case reflect.Array:
		for i := range v.Len() {
			differences(v.Index(i), yield)
		}
	case reflect.Slice:
		old := v.Slice(0, v.Len())
		more := reflect.Append(v.Slice3(0, v.Len(), v.Len()), reflect.Zero(v.Type().Elem()))
		yield(func() { v.Set(more) }, func() { v.Set(old) })
		if v.Len() > 0 {
			yield(func() { v.Set(old.Slice(0, old.Len()-1)) }, func() { v.Set(old) })
		}
		for i := range v.Len() {
			differences(v.Index(i), yield)
		}
	}
}

func TestSame(t *testing.T) { // P11.2: styles that differ in one place, each of them
	for _, make := range []func() api.Style{atFirst, rich, func() api.Style { return api.Style{} }} {
		a, b := make(), make()
		count := 0
		differences(reflect.ValueOf(&b).Elem(), func(change, back func()) {
			count++
			change()
			if style.Same(a, b) || style.Same(b, a) {
				t.Errorf("the same, but for %v", unlike(a, b))
			}
			back()
			if !style.Same(a, b) || !style.Same(b, a) {
				t.Errorf("not the same: %+v and %+v", a, b)
			}
		})
		if fields := reflect.TypeFor[api.Style]().NumField(); count < fields {
			t.Errorf("%d differences of %d fields", count, fields)
		}
	}
}

func TestSameLists(t *testing.T) { // P11.2: a list without an element may be nil or empty
	a, b := atFirst(), atFirst()
	a.AutoRows, a.AutoCols = nil, nil
	b.Rows, b.Cols, b.Areas, b.AutoRows, b.AutoCols, b.Content = []api.Piece{}, []api.Piece{}, [][]string{}, []api.Track{}, []api.Track{}, [][]api.Box{}
	if !style.Same(a, b) || !style.Same(b, a) {
		t.Error("not the same")
	}
	a, b = atFirst(), atFirst()
	b.Rows, b.Cols, b.Areas, b.Content = []api.Piece{}, []api.Piece{}, [][]string{}, [][]api.Box{}
	if !style.Good(b) || !style.Same(a, b) {
		t.Error("empty lists")
	}
	for _, name := range allProperties() {
		if style.Text(a, name) != style.Text(b, name) {
			t.Error(name)
		}
	}
}

func TestText(t *testing.T) { // P11.3
	first := []string{
		"none", "none", "none", "auto", "auto", "row", "0px", "0px",
		"normal", "normal", "normal", "normal", "auto", "auto", "auto", "auto", "auto", "auto",
		"0", "auto", "auto", "auto", "auto", "none", "none", "0px", "0px", "0px", "0px", "none",
	}
	second := []string{
		"[a b] 10px repeat(2, 1fr [c])", "repeat(auto-fill, [d] 20px) 5%", `"e e ." "f . g"`,
		"3fr 30px fit-content(7%)", "minmax(1px, 2fr) min-content", "column dense", "11px", "12%",
		"space-between", "space-around", "start", "end", "center", "stretch", "3", "h", "span 2", "-1 i",
		"13", "14px", "15%", "16px", "min-content", "max-content", "17px", "-18px", "auto", "-19%", "20px", "21px 22px, 23px 24px / 25px 26px",
	}
	for i, property := range allProperties() {
		for _, name := range spellings(property) {
			if x := style.Text(atFirst(), name); x != first[i] {
				t.Errorf("%s: %q, not %q", name, x, first[i])
			}
			if x := style.Text(rich(), name); x != second[i] {
				t.Errorf("%s: %q, not %q", name, x, second[i])
			}
		}
	}
}

func TestTextOfOthers(t *testing.T) { // P11.3: nothing of shorthands and of names that are none
	names := []string{"", " ", "color", "display", "grid", "width ", " width", "Rows", "wıdth", "grid-template-row", "GAP", "Margin"}
	for name := range allShorthands() {
		names = append(names, name)
	}
	for _, name := range names {
		if x := style.Text(rich(), name); x != "" {
			t.Errorf("%q: %q", name, x)
		}
	}
}

func TestTextOfWrongFields(t *testing.T) { // P11.3: what writes a field tells what is written of one that may not be
	for _, name := range allProperties() {
		want := map[string]string{
			"grid-template-rows": "none", "grid-template-columns": "none", "grid-template-areas": "none",
			"grid-auto-flow": "row", "order": "0", "content": "none",
		}[name]
		if x := style.Text(api.Style{}, name); x != want {
			t.Errorf("%s: %q, not %q", name, x, want)
		}
	}
	s := atFirst()
	s.Rows, s.Areas, s.Content = []api.Piece{named("x")}, [][]string{{}}, [][]api.Box{{}}
	s.AutoRows, s.AutoCols = []api.Track{plain(px(1)), {}, flexible(2)}, nil
	s.Width, s.MaxWidth, s.RowGap, s.Margin[2] = fr(1), auto(), px(-1), api.Len{Kind: api.LenPx, N: api.MaxPx + 1}
	s.JustifyContent, s.AlignItems, s.AlignSelf = api.AlignAuto, api.AlignEvenly, 10
	s.RowStart, s.ColEnd = line(api.LineNum, 0, ""), line(api.LineName, 0, "auto")
	for name, want := range map[string]string{
		"grid-template-rows": "", "grid-template-areas": "", "content": "", "grid-auto-rows": "1px  2fr", "grid-auto-columns": "",
		"width": "1fr", "max-width": "auto", "row-gap": "-1px", "margin-bottom": "", "justify-content": "auto", "align-items": "space-evenly",
		"align-self": "", "grid-row-start": "", "grid-column-end": "", "order": "0", "grid-auto-flow": "row", "grid-column-start": "auto",
	} {
		if x := style.Text(s, name); x != want {
			t.Errorf("%s: %q, not %q", name, x, want)
		}
	}
}

func TestTextOfOrder(t *testing.T) { // P11.3: a number's text, which lengths alone have
	for n, want := range map[int]string{
		7: "7", -7: "-7", api.MaxOrder: "1048576", -api.MaxOrder: "-1048576", api.MaxOrder + 1: "1048577",
		api.MaxPx: "68719476736", -api.MaxPx: "-68719476736", api.MaxPx + 1: "", -api.MaxPx - 1: "", math.MaxInt: "", math.MinInt: "",
	} {
		s := atFirst()
		s.Order = n
		if x := style.Text(s, "order"); x != want {
			t.Errorf("%d: %q, not %q", n, x, want)
		}
	}
}
