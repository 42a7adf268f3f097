package style_test

import (
	"math"
	"reflect"
	"strings"
	"testing"

	"parterre/api"
	"parterre/token"
)

// words tells the words of a text.
func words(t *testing.T, s string) []api.Token {
	t.Helper()
	l, _, e := token.Tokens([]byte(s))
	if e != api.OK {
		t.Fatalf("%.60q: %d", s, int(e))
	}
	return l
}

// surroundings yields the words of a text as they may be handed in: alone, without an end, with other words ahead; and the place where they begin.
func surroundings(t *testing.T, s string) func(yield func([]api.Token, int) bool) {
	t.Helper()
	l := words(t, s)
	ahead := words(t, "auto 'a' 1px [ /")[:5]
	return func(yield func([]api.Token, int) bool) {
		_ = yield(l, 0) && yield(l[:len(l)-1:len(l)-1], 0) && yield(append(ahead, l...), 5)
	}
}

// unlike tells the fields in which two styles differ, and both of each.
func unlike(a, b api.Style) map[string][2]any {
	list := map[string][2]any{}
	x, y := reflect.ValueOf(a), reflect.ValueOf(b)
	for i := range x.NumField() {
		if v, w := x.Field(i).Interface(), y.Field(i).Interface(); !reflect.DeepEqual(v, w) {
			list[x.Type().Field(i).Name] = [2]any{v, w}
		}
	}
	return list
}

// noPlaces are places that n words don't have.
func noPlaces(n int) []int { return []int{math.MinInt, -2, -1, n, n + 1, math.MaxInt - 1, math.MaxInt} }

// spellings tells a name as it may be written: small, great, and both by turns.
func spellings(name string) []string {
	mixed := []byte(name)
	for i := range mixed {
		if i%2 == 0 {
			mixed[i] = strings.ToUpper(name)[i]
		}
	}
	return []string{name, strings.ToUpper(name), string(mixed)}
}

func allProperties() []string {
	return []string{
		"grid-template-rows", "grid-template-columns", "grid-template-areas",
		"grid-auto-rows", "grid-auto-columns", "grid-auto-flow",
		"row-gap", "column-gap",
		"justify-content", "align-content", "justify-items", "align-items", "justify-self", "align-self",
		"grid-row-start", "grid-column-start", "grid-row-end", "grid-column-end",
		"order",
		"width", "height", "min-width", "min-height", "max-width", "max-height",
		"margin-top", "margin-right", "margin-bottom", "margin-left",
		"content",
	}
}

// allShorthands tells of each shorthand the properties that it stands for.
func allShorthands() map[string][]string {
	return map[string][]string{
		"grid-template": {"grid-template-rows", "grid-template-columns", "grid-template-areas"},
		"gap":           {"row-gap", "column-gap"},
		"place-content": {"align-content", "justify-content"},
		"place-items":   {"align-items", "justify-items"},
		"place-self":    {"align-self", "justify-self"},
		"grid-row":      {"grid-row-start", "grid-row-end"},
		"grid-column":   {"grid-column-start", "grid-column-end"},
		"grid-area":     {"grid-row-start", "grid-column-start", "grid-row-end", "grid-column-end"},
		"margin":        {"margin-top", "margin-right", "margin-bottom", "margin-left"},
	}
}

// readable tells all names that Set reads something by.
func readable() []string {
	list := allProperties()
	for name := range allShorthands() {
		list = append(list, name)
	}
	return list
}

func px(n int) api.Len { return api.Len{Kind: api.LenPx, N: n * api.Unit} }

func pct(n int) api.Len { return api.Len{Kind: api.LenPct, N: n * api.Mille} }

func fr(n int) api.Len { return api.Len{Kind: api.LenFr, N: n * api.Mille} }

// keyword tells a size of a kind without a number.
func keyword(kind int) api.Len { return api.Len{Kind: kind} }

func auto() api.Len { return keyword(api.LenAuto) }

// plain tells a track of one size.
func plain(v api.Len) api.Track { return api.Track{Min: v, Max: v} }

func flexible(n int) api.Track { return api.Track{Min: auto(), Max: fr(n)} }

func fitting(v api.Len) api.Track {
	return api.Track{Min: auto(), Max: keyword(api.LenMax), Fit: true, Limit: v}
}

func named(list ...string) api.Piece { return api.Piece{Kind: api.PieceNames, Names: list} }

func sized(t api.Track) api.Piece { return api.Piece{Kind: api.PieceTrack, Track: t} }

func repeated(count int, inner ...api.Piece) api.Piece {
	return api.Piece{Kind: api.PieceRepeat, Count: count, Inner: inner}
}

func filling(inner ...api.Piece) api.Piece { return api.Piece{Kind: api.PieceFill, Inner: inner} }

func line(kind, n int, name string) api.Line { return api.Line{Kind: kind, N: n, Name: name} }

func autoLine() api.Line { return line(api.LineAuto, 0, "") }

func boxes(list ...int) []api.Box {
	var word []api.Box
	for i := 0; i < len(list); i += 2 {
		word = append(word, api.Box{W: list[i] * api.Unit, H: list[i+1] * api.Unit})
	}
	return word
}

// atFirst is what stands at first, field by field.
func atFirst() api.Style {
	normal, nothing, none := api.AlignNormal, px(0), keyword(api.LenNone)
	return api.Style{
		AutoRows: []api.Track{plain(auto())}, AutoCols: []api.Track{plain(auto())},
		RowGap: nothing, ColGap: nothing,
		JustifyContent: normal, AlignContent: normal, JustifyItems: normal, AlignItems: normal,
		JustifySelf: api.AlignAuto, AlignSelf: api.AlignAuto,
		RowStart: autoLine(), ColStart: autoLine(), RowEnd: autoLine(), ColEnd: autoLine(),
		Width: auto(), Height: auto(), MinWidth: auto(), MinHeight: auto(), MaxWidth: none, MaxHeight: none,
		Margin: [4]api.Len{nothing, nothing, nothing, nothing},
	}
}

// rich is a style that may be, in which each field is another one than at first, and no two fields of a kind are alike.
func rich() api.Style {
	return api.Style{
		Rows:     []api.Piece{named("a", "b"), sized(plain(px(10))), repeated(2, sized(flexible(1)), named("c"))},
		Cols:     []api.Piece{filling(named("d"), sized(plain(px(20)))), sized(plain(pct(5)))},
		Areas:    [][]string{{"e", "e", ""}, {"f", "", "g"}},
		AutoRows: []api.Track{flexible(3), plain(px(30)), fitting(pct(7))},
		AutoCols: []api.Track{{Min: px(1), Max: fr(2)}, plain(keyword(api.LenMin))},
		Column:   true, Dense: true,
		RowGap: px(11), ColGap: pct(12),
		JustifyContent: api.AlignBetween, AlignContent: api.AlignAround,
		JustifyItems: api.AlignStart, AlignItems: api.AlignEnd,
		JustifySelf: api.AlignCenter, AlignSelf: api.AlignStretch,
		RowStart: line(api.LineNum, 3, ""), ColStart: line(api.LineName, 0, "h"),
		RowEnd: line(api.LineSpan, 2, ""), ColEnd: line(api.LineNum, -1, "i"),
		Order: 13,
		Width: px(14), Height: pct(15), MinWidth: px(16), MinHeight: keyword(api.LenMin), MaxWidth: keyword(api.LenMax), MaxHeight: px(17),
		Margin:  [4]api.Len{px(-18), auto(), pct(-19), px(20)},
		Content: [][]api.Box{boxes(21, 22, 23, 24), boxes(25, 26)},
	}
}
