package style_test

import (
	"reflect"
	"strings"
	"testing"

	"parterre/api"
	"parterre/style"
)

func TestSetTemplateShorthand(t *testing.T) { // P11.1
	set := func(text string, next int, rows, cols []api.Piece, areas [][]string) {
		t.Helper()
		isRead(t, read{"grid-template", text, next, func(s *api.Style) { s.Rows, s.Cols, s.Areas = rows, cols, areas }})
	}
	one, two := sized(plain(px(1))), sized(plain(px(2)))
	set("none", 1, nil, nil, nil)
	set("1px / 2px", 3, []api.Piece{one}, []api.Piece{two}, nil)
	set("none / 2px", 3, nil, []api.Piece{two}, nil)
	set("1px / none", 3, []api.Piece{one}, nil, nil)
	set("'x y' 1px", 2, []api.Piece{one}, nil, [][]string{{"x", "y"}})
	set("[n] 'x' 'y' 2px [m] / 1px 2px;", 12, []api.Piece{named("n"), sized(plain(auto())), two, named("m")}, []api.Piece{one, two}, [][]string{{"x"}, {"y"}})
	for _, x := range []fault{
		{"1px", 1, api.ErrSyntax}, {"1px / 2em", 2, api.ErrFeature}, {"subgrid", 0, api.ErrFeature}, {"'x' 1px / repeat(2, 1px)", 3, api.ErrSyntax},
		{"'x y' 'y x'", 0, api.ErrSyntax}, {"'x' 'y z'", 1, api.ErrSyntax}, {"repeat(10001, 1px) / none", 1, api.ErrLimit},
	} {
		isWrong(t, "grid-template", x)
	}
}

func TestSetGap(t *testing.T) { // P11.1
	set := func(text string, next int, row, col api.Len) {
		t.Helper()
		isRead(t, read{"gap", text, next, func(s *api.Style) { s.RowGap, s.ColGap = row, col }})
	}
	set("1px", 1, px(1), px(1))
	set("1px 2%", 2, px(1), pct(2))
	set("1px auto", 1, px(1), px(1))
	for _, x := range []fault{{"auto", 0, api.ErrSyntax}, {"1px 2em", 1, api.ErrFeature}, {"-1px", 0, api.ErrSyntax}, {"1px 1e99px", 1, api.ErrOver}} {
		isWrong(t, "gap", x)
	}
}

func TestSetPlace(t *testing.T) { // P11.1
	for name, part := range map[string]func(s *api.Style) (align, justify *int){
		"place-content": func(s *api.Style) (*int, *int) { return &s.AlignContent, &s.JustifyContent },
		"place-items":   func(s *api.Style) (*int, *int) { return &s.AlignItems, &s.JustifyItems },
		"place-self":    func(s *api.Style) (*int, *int) { return &s.AlignSelf, &s.JustifySelf },
	} {
		x := alignParts()[allShorthands()[name][0]]
		set := func(text string, next, align, justify int) {
			t.Helper()
			isRead(t, read{name, text, next, func(s *api.Style) {
				a, j := part(s)
				*a, *j = align, justify
			}})
		}
		set("start end", 2, api.AlignStart, api.AlignEnd)
		set("end Start center", 2, api.AlignEnd, api.AlignStart)
		for i, word := range alignWords() {
			k := api.AlignAuto + i
			if x.first <= k && k <= x.last {
				set(word, 1, k, k)
				set("center "+word, 2, api.AlignCenter, k)
			} else {
				isWrong(t, name, fault{word, 0, api.ErrSyntax})
				set("center "+word, 1, api.AlignCenter, api.AlignCenter)
			}
		}
		for _, y := range []fault{{"baseline", 0, api.ErrFeature}, {"start last", 1, api.ErrFeature}, {"1px", 0, api.ErrSyntax}} {
			isWrong(t, name, y)
		}
	}
}

func TestSetPairs(t *testing.T) { // P11.1
	for name, part := range map[string]func(s *api.Style) (start, end *api.Line){
		"grid-row":    func(s *api.Style) (*api.Line, *api.Line) { return &s.RowStart, &s.RowEnd },
		"grid-column": func(s *api.Style) (*api.Line, *api.Line) { return &s.ColStart, &s.ColEnd },
	} {
		set := func(text string, next int, start, end api.Line) {
			t.Helper()
			isRead(t, read{name, text, next, func(s *api.Style) {
				a, b := part(s)
				*a, *b = start, end
			}})
		}
		x, two := line(api.LineName, 0, "x"), line(api.LineNum, 2, "")
		set("x", 1, x, x)
		set("2", 1, two, autoLine())
		set("2 / x / 3", 3, two, x)
		set("x / span 4", 4, x, line(api.LineSpan, 4, ""))
		for _, y := range []fault{{"0", 0, api.ErrSyntax}, {"x /", 2, api.ErrSyntax}, {"x / 10001", 2, api.ErrLimit}, {"2 / unset", 2, api.ErrFeature}} {
			isWrong(t, name, y)
		}
	}
}

func TestSetArea(t *testing.T) { // P11.1
	set := func(text string, next int, l ...api.Line) {
		t.Helper()
		isRead(t, read{"grid-area", text, next, func(s *api.Style) { s.RowStart, s.ColStart, s.RowEnd, s.ColEnd = l[0], l[1], l[2], l[3] }})
	}
	x, y, none := line(api.LineName, 0, "x"), line(api.LineName, 0, "y"), autoLine()
	num := func(n int) api.Line { return line(api.LineNum, n, "") }
	set("x", 1, x, x, x, x)
	set("x / 2", 3, x, num(2), x, none) // the example
	set("1 / x", 3, num(1), x, none, x)
	set("x / y / 3", 5, x, y, num(3), y)
	set("1 / 2 / 3 / 4", 7, num(1), num(2), num(3), num(4))
	set("1 / 2 / 3 / 4 / 5", 7, num(1), num(2), num(3), num(4))
	for _, f := range []fault{{"1px", 0, api.ErrSyntax}, {"x / y / 3 /", 6, api.ErrSyntax}, {"1 / 2 / 0", 4, api.ErrSyntax}, {"x / 99999", 2, api.ErrLimit}, {"revert", 0, api.ErrFeature}} {
		isWrong(t, "grid-area", f)
	}
}

func TestSetMargin(t *testing.T) { // P11.1
	set := func(text string, next int, top, right, bottom, left api.Len) {
		t.Helper()
		isRead(t, read{"margin", text, next, func(s *api.Style) { s.Margin = [4]api.Len{top, right, bottom, left} }})
	}
	set("1px", 1, px(1), px(1), px(1), px(1))
	set("1px auto", 2, px(1), auto(), px(1), auto())
	set("1px 2px -3%", 3, px(1), px(2), pct(-3), px(2))
	set("1px 2px 3px 4px 5px", 4, px(1), px(2), px(3), px(4))
	for _, x := range []fault{{"none", 0, api.ErrSyntax}, {"1px 2px 3em", 2, api.ErrFeature}, {"1e99px", 0, api.ErrOver}, {"1fr", 0, api.ErrSyntax}} {
		isWrong(t, "margin", x)
	}
}

func TestSetForeignNames(t *testing.T) { // P11.1: names that mean something which is not built
	names := strings.Fields("display position float clear aspect-ratio padding border box-sizing overflow grid inset transform writing-mode direction")
	for _, name := range names {
		for _, spelt := range spellings(name) {
			isWrong(t, spelt, fault{"1px", 0, api.ErrFeature})
			isWrong(t, spelt, fault{"none", 0, api.ErrFeature})
		}
	}
}

func TestSetUnknownNames(t *testing.T) { // P11.1
	names := []string{
		"", " ", "color", "Colour", " width", "width ", "width:", "wid\x00th", "padding-left", "border-width", "grid-gap", "grid-row-gap", "grid-",
		"grid-template-row", "gridarea", "margin_top", "margin-", "-margin", "flow", "justify", "rows", "Rows", "none", "auto", "juſtify-content", "wıdth",
		"inset-inline", "overflow-x", "float\n", "\xff", strings.Repeat("width", 100),
	}
	for _, name := range names {
		isWrong(t, name, fault{"1px", 0, api.ErrName})
		isWrong(t, name, fault{"2em", 0, api.ErrName})
	}
}

func TestSetNoWords(t *testing.T) { // P11.1: no words at all, and places that none has
	for _, l := range [][]api.Token{nil, {}, {{Kind: api.TokEnd}}, words(t, "1px 1px"), words(t, "auto")[:1], {{}}, {{Kind: 77, Text: "auto", Num: "1"}}} {
		places := noPlaces(len(l))
		if len(l) > 0 && l[0].Kind != api.TokDim && l[0].Kind != api.TokIdent {
			places = append(places, 0)
		}
		for _, at := range places {
			setFails(t, l, at, api.ErrSyntax, readable()...)
			setFails(t, l, at, api.ErrFeature, "display", "GRID")
			setFails(t, l, at, api.ErrName, "color", "")
		}
	}
}

func setFails(t *testing.T, l []api.Token, at int, want api.Errno, names ...string) {
	t.Helper()
	for _, name := range names {
		if s, n, e := style.Set(rich(), name, l, at); !reflect.DeepEqual(s, api.Style{}) || n != at || e != want {
			t.Errorf("%s of %v at %d: %d, %d; told is %v", name, l, at, n, int(e), unlike(s, api.Style{}))
		}
	}
}
