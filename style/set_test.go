package style_test

import (
	"reflect"
	"slices"
	"strings"
	"testing"

	"parterre/api"
	"parterre/style"
)

// read is a text of a property or a shorthand that may be: how many words it takes, and what it changes.
type read struct {
	name, text string
	next       int
	change     func(s *api.Style)
}

// fault is a text that may not be: the place of the word that is wrong, and the error.
type fault struct {
	text string
	at   int
	e    api.Errno
}

// isRead asks what Set tells of a text, of styles of all kinds, those that may not be too: each other field stays as it is.
func isRead(t *testing.T, x read) {
	t.Helper()
	for _, base := range []func() api.Style{atFirst, rich, func() api.Style { return api.Style{} }} {
		for _, name := range spellings(x.name) {
			for l, at := range surroundings(t, x.text) {
				old, want := base(), base()
				x.change(&want)
				s, n, e := style.Set(old, name, l, at)
				if n != at+x.next || e != api.OK {
					t.Errorf("%s: %.60s at %d: %d, %d; not %d", name, x.text, at, n, int(e), at+x.next)
				}
				for field, both := range unlike(s, want) {
					t.Errorf("%s: %.60s at %d: %s is %v, not %v", name, x.text, at, field, both[0], both[1])
				}
				if !reflect.DeepEqual(old, base()) {
					t.Errorf("%s: %.60s changes what was handed in", name, x.text)
				}
			}
		}
	}
}

// isWrong asks which error Set tells of a text, and where; no style is told then.
func isWrong(t *testing.T, name string, x fault) {
	t.Helper()
	for _, base := range []func() api.Style{atFirst, rich} {
		for l, at := range surroundings(t, x.text) {
			old := base()
			s, n, e := style.Set(old, name, l, at)
			if !reflect.DeepEqual(s, api.Style{}) || n != at+x.at || e != x.e {
				t.Errorf("%s: %.60s at %d: %d, %d; not %d, %d; told is %v", name, x.text, at, n, int(e), at+x.at, int(x.e), unlike(s, api.Style{}))
			}
			if !reflect.DeepEqual(old, base()) {
				t.Errorf("%s: %.60s changes what was handed in", name, x.text)
			}
		}
	}
}

// onTemplates tells of both templates which field it is.
func onTemplates() map[string]func(s *api.Style) *[]api.Piece {
	return map[string]func(s *api.Style) *[]api.Piece{
		"grid-template-rows":    func(s *api.Style) *[]api.Piece { return &s.Rows },
		"grid-template-columns": func(s *api.Style) *[]api.Piece { return &s.Cols },
	}
}

func TestSetTemplates(t *testing.T) { // P11.1
	for name, part := range onTemplates() {
		set := func(text string, next int, want ...api.Piece) {
			t.Helper()
			isRead(t, read{name, text, next, func(s *api.Style) { *part(s) = want }})
		}
		set("none", 1)
		set("NONE 1px", 1)
		set("1px", 1, sized(plain(px(1))))
		set("[x y] 1fr repeat(3, auto)", 10, named("x", "y"), sized(flexible(1)), repeated(3, sized(plain(auto()))))
		set("repeat(auto-fill, 5px [z]);", 8, filling(sized(plain(px(5))), named("z")))
		set("1px 2em", 1, sized(plain(px(1))))
		set("1px minmax(1px, 2%)", 6, sized(plain(px(1))), sized(api.Track{Min: px(1), Max: pct(2)}))
		for _, x := range []fault{
			{"subgrid", 0, api.ErrFeature}, {"2em", 0, api.ErrFeature}, {"red", 0, api.ErrSyntax}, {"[x", 2, api.ErrSyntax},
			{"1px repeat(0, 1px)", 2, api.ErrSyntax}, {"repeat(10001, 1px)", 1, api.ErrLimit}, {"1px minmax(1px, 1e99px)", 4, api.ErrOver},
			{"repeat(auto-fill, 1fr)", 0, api.ErrSyntax}, {strings.Repeat("1px ", 257), 256, api.ErrLimit}, {"1e99px", 0, api.ErrOver},
		} {
			isWrong(t, name, x)
		}
	}
}

func TestSetAreas(t *testing.T) { // P11.1
	name := "grid-template-areas"
	set := func(text string, next int, want ...[]string) {
		t.Helper()
		isRead(t, read{name, text, next, func(s *api.Style) { s.Areas = want }})
	}
	set("none", 1)
	set("'x'", 1, []string{"x"})
	set("'x x .' '... y z' 1px", 2, []string{"x", "x", ""}, []string{"", "y", "z"})
	for _, x := range []fault{
		{"inherit", 0, api.ErrFeature}, {"x", 0, api.ErrSyntax}, {"'x y' 'y x'", 0, api.ErrSyntax}, {"'x' 'y z'", 1, api.ErrSyntax},
		{"'x' '%'", 1, api.ErrSyntax}, {"''", 0, api.ErrSyntax}, {strings.Repeat("'x' ", 65), 64, api.ErrLimit},
	} {
		isWrong(t, name, x)
	}
}

func TestSetAutoTracks(t *testing.T) { // P11.1
	for name, part := range map[string]func(s *api.Style) *[]api.Track{
		"grid-auto-rows":    func(s *api.Style) *[]api.Track { return &s.AutoRows },
		"grid-auto-columns": func(s *api.Style) *[]api.Track { return &s.AutoCols },
	} {
		set := func(text string, next int, want ...api.Track) {
			t.Helper()
			isRead(t, read{name, text, next, func(s *api.Style) { *part(s) = want }})
		}
		set("auto", 1, plain(auto()))
		set("1px 2% 3fr minmax(4px, 5fr) fit-content(6px) none", 11, plain(px(1)), plain(pct(2)), flexible(3), api.Track{Min: px(4), Max: fr(5)}, fitting(px(6)))
		set(strings.Repeat("1px ", 256), 256, slices.Repeat([]api.Track{plain(px(1))}, 256)...)
		for _, x := range []fault{
			{"none", 0, api.ErrSyntax}, {"[x] 1px", 0, api.ErrSyntax}, {"repeat(2, 1px)", 0, api.ErrSyntax}, {"3pt", 0, api.ErrFeature},
			{"1px minmax(1fr, 2px)", 2, api.ErrSyntax}, {"1e9fr", 0, api.ErrOver}, {"-1px", 0, api.ErrSyntax},
			{strings.Repeat("1px ", 257), 256, api.ErrLimit},
		} {
			isWrong(t, name, x)
		}
	}
}

func TestSetFlow(t *testing.T) { // P11.1
	for text, want := range map[string][2]bool{
		"row": {false, false}, "column": {true, false}, "dense": {false, true}, "row dense": {false, true}, "Dense Column": {true, true},
	} {
		change := func(s *api.Style) { s.Column, s.Dense = want[0], want[1] }
		isRead(t, read{"grid-auto-flow", text, 1 + strings.Count(text, " "), change})
		isRead(t, read{"grid-auto-flow", text + " none", 1 + strings.Count(text, " "), change})
	}
	for _, x := range []fault{{"inherit", 0, api.ErrFeature}, {"rows", 0, api.ErrSyntax}, {"1px", 0, api.ErrSyntax}} {
		isWrong(t, "grid-auto-flow", x)
	}
}

// sizeParts tells of each property that is one size which field it is, and what it may be beside px and percentages.
func sizeParts() map[string]struct {
	part func(s *api.Style) *api.Len
	may  string
} {
	type sizePart = struct {
		part func(s *api.Style) *api.Len
		may  string
	}
	const size, most, margin = "auto min-content max-content", "min-content max-content none", "auto -1px -2.5%"
	return map[string]sizePart{
		"row-gap":       {func(s *api.Style) *api.Len { return &s.RowGap }, ""},
		"column-gap":    {func(s *api.Style) *api.Len { return &s.ColGap }, ""},
		"width":         {func(s *api.Style) *api.Len { return &s.Width }, size},
		"height":        {func(s *api.Style) *api.Len { return &s.Height }, size},
		"min-width":     {func(s *api.Style) *api.Len { return &s.MinWidth }, size},
		"min-height":    {func(s *api.Style) *api.Len { return &s.MinHeight }, size},
		"max-width":     {func(s *api.Style) *api.Len { return &s.MaxWidth }, most},
		"max-height":    {func(s *api.Style) *api.Len { return &s.MaxHeight }, most},
		"margin-top":    {func(s *api.Style) *api.Len { return &s.Margin[0] }, margin},
		"margin-right":  {func(s *api.Style) *api.Len { return &s.Margin[1] }, margin},
		"margin-bottom": {func(s *api.Style) *api.Len { return &s.Margin[2] }, margin},
		"margin-left":   {func(s *api.Style) *api.Len { return &s.Margin[3] }, margin},
	}
}

func TestSetSizes(t *testing.T) { // P11.1
	texts := map[string]api.Len{
		"auto": auto(), "min-content": keyword(api.LenMin), "max-content": keyword(api.LenMax), "none": keyword(api.LenNone),
		"-1px": px(-1), "-2.5%": {Kind: api.LenPct, N: -2500}, "1fr": fr(1),
	}
	for name, x := range sizeParts() {
		set := func(text string, want api.Len) {
			t.Helper()
			isRead(t, read{name, text, 1, func(s *api.Style) { *x.part(s) = want }})
			isRead(t, read{name, text + " 7em", 1, func(s *api.Style) { *x.part(s) = want }})
		}
		set("0", px(0))
		set("1.5px", api.Len{Kind: api.LenPx, N: 96})
		set("1073741824PX", api.Len{Kind: api.LenPx, N: api.MaxPx})
		set("50.5%", api.Len{Kind: api.LenPct, N: 50500})
		for text, want := range texts {
			if slices.Contains(strings.Fields(x.may), text) {
				set(text, want)
			} else {
				isWrong(t, name, fault{text, 0, api.ErrSyntax})
			}
		}
		for _, y := range []fault{
			{"1em", 0, api.ErrFeature}, {"calc(1px)", 0, api.ErrFeature}, {"initial", 0, api.ErrFeature}, {"1073741825px", 0, api.ErrOver},
			{"1073742%", 0, api.ErrOver}, {"5", 0, api.ErrSyntax}, {"'x'", 0, api.ErrSyntax}, {"/ 1px", 0, api.ErrSyntax},
		} {
			isWrong(t, name, y)
		}
	}
}

func alignWords() []string {
	return []string{"auto", "normal", "start", "end", "center", "stretch", "space-between", "space-around", "space-evenly"}
}

// alignParts tells of each property that is an alignment which field it is, and the first and the last one that it may be.
func alignParts() map[string]struct {
	part        func(s *api.Style) *int
	first, last int
} {
	type alignPart = struct {
		part        func(s *api.Style) *int
		first, last int
	}
	return map[string]alignPart{
		"justify-content": {func(s *api.Style) *int { return &s.JustifyContent }, api.AlignNormal, api.AlignEvenly},
		"align-content":   {func(s *api.Style) *int { return &s.AlignContent }, api.AlignNormal, api.AlignEvenly},
		"justify-items":   {func(s *api.Style) *int { return &s.JustifyItems }, api.AlignNormal, api.AlignStretch},
		"align-items":     {func(s *api.Style) *int { return &s.AlignItems }, api.AlignNormal, api.AlignStretch},
		"justify-self":    {func(s *api.Style) *int { return &s.JustifySelf }, api.AlignAuto, api.AlignStretch},
		"align-self":      {func(s *api.Style) *int { return &s.AlignSelf }, api.AlignAuto, api.AlignStretch},
	}
}

func TestSetAlignment(t *testing.T) { // P11.1
	for name, x := range alignParts() {
		for i, word := range alignWords() {
			k := api.AlignAuto + i
			if x.first <= k && k <= x.last {
				isRead(t, read{name, word, 1, func(s *api.Style) { *x.part(s) = k }})
				isRead(t, read{name, word + " start", 1, func(s *api.Style) { *x.part(s) = k }})
			} else {
				isWrong(t, name, fault{word, 0, api.ErrSyntax})
			}
		}
		for _, y := range []fault{{"baseline", 0, api.ErrFeature}, {"unset", 0, api.ErrFeature}, {"top", 0, api.ErrSyntax}, {"3", 0, api.ErrSyntax}} {
			isWrong(t, name, y)
		}
	}
}

// lineParts tells of each property that is a line which field it is.
func lineParts() map[string]func(s *api.Style) *api.Line {
	return map[string]func(s *api.Style) *api.Line{
		"grid-row-start":    func(s *api.Style) *api.Line { return &s.RowStart },
		"grid-column-start": func(s *api.Style) *api.Line { return &s.ColStart },
		"grid-row-end":      func(s *api.Style) *api.Line { return &s.RowEnd },
		"grid-column-end":   func(s *api.Style) *api.Line { return &s.ColEnd },
	}
}

func TestSetLines(t *testing.T) { // P11.1
	for name, part := range lineParts() {
		set := func(text string, next int, want api.Line) {
			t.Helper()
			isRead(t, read{name, text, next, func(s *api.Style) { *part(s) = want }})
		}
		set("auto", 1, autoLine())
		set("-10000", 1, line(api.LineNum, -10000, ""))
		set("x 2", 2, line(api.LineNum, 2, "x"))
		set("x / 2", 1, line(api.LineName, 0, "x"))
		set("span 3 x 4", 3, line(api.LineSpan, 3, "x"))
		for _, x := range []fault{
			{"0", 0, api.ErrSyntax}, {"span", 1, api.ErrSyntax}, {"span 0", 1, api.ErrSyntax}, {"10001", 0, api.ErrLimit},
			{"x -10001", 1, api.ErrLimit}, {"inherit", 0, api.ErrFeature}, {"1px", 0, api.ErrSyntax}, {"/ 1", 0, api.ErrSyntax},
		} {
			isWrong(t, name, x)
		}
	}
}

func TestSetOrder(t *testing.T) { // P11.1
	for text, want := range map[string]int{"0": 0, "-0": 0, "5": 5, "+5 6": 5, "1048576": api.MaxOrder, "-1048576": -api.MaxOrder} {
		isRead(t, read{"order", text, 1, func(s *api.Style) { s.Order = want }})
	}
	for _, x := range []fault{
		{"1048577", 0, api.ErrLimit}, {"-1048577", 0, api.ErrLimit}, {"99999999999999999999", 0, api.ErrLimit},
		{"1.0", 0, api.ErrSyntax}, {"1e1", 0, api.ErrSyntax}, {"5px", 0, api.ErrSyntax}, {"auto", 0, api.ErrSyntax},
	} {
		isWrong(t, "order", x)
	}
}

func TestSetContent(t *testing.T) { // P11.1
	set := func(text string, next int, want ...[]api.Box) {
		t.Helper()
		isRead(t, read{"content", text, next, func(s *api.Style) { s.Content = want }})
	}
	set("none", 1)
	set("1px 2px", 2, boxes(1, 2))
	set("1px 2px, 3px 4px / 5px 6px;", 8, boxes(1, 2, 3, 4), boxes(5, 6))
	for _, x := range []fault{
		{"1px", 1, api.ErrSyntax}, {"1px 2px /", 3, api.ErrSyntax}, {"1px 2em", 1, api.ErrFeature}, {"1% 1px", 0, api.ErrSyntax},
		{"1px 1e99px", 1, api.ErrOver}, {"auto", 0, api.ErrSyntax}, {"'x'", 0, api.ErrSyntax},
		{"0 0" + strings.Repeat(",0 0", 256), 3 * 256, api.ErrLimit},
	} {
		isWrong(t, "content", x)
	}
}
