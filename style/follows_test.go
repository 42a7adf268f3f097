package style_test

import (
	"math/rand/v2"
	"reflect"
	"slices"
	"strings"
	"testing"

	"parterre/api"
	"parterre/style"
)

func oneOf[T any](r *rand.Rand, list ...T) T { return list[r.IntN(len(list))] }

func someName(r *rand.Rand) string {
	return oneOf(r, "a", "A", "b-1", "1a", "-2", "-", "--", "a b", "none", "grid", "ü", "\x01\x7f", "]", `"\`, "\xff", strings.Repeat("x", api.MaxName))
}

// someLength tells a size of px or a percentage, at its limits too.
func someLength(r *rand.Rand, below bool) api.Len {
	v := oneOf(r, api.Len{Kind: api.LenPx, N: r.IntN(api.MaxPx + 1)}, api.Len{Kind: api.LenPct, N: r.IntN(api.MaxMille + 1)},
		api.Len{Kind: api.LenPx, N: api.MaxPx}, api.Len{Kind: api.LenPct, N: api.MaxMille}, px(r.IntN(9)), pct(r.IntN(9)))
	if below && r.IntN(2) == 0 {
		v.N = -v.N
	}
	return v
}

func someTrack(r *rand.Rand, fixed bool) api.Track {
	breadth := oneOf(r, auto(), keyword(api.LenMin), keyword(api.LenMax), someLength(r, false))
	flex := api.Len{Kind: api.LenFr, N: oneOf(r, 0, 1, 1000, r.IntN(api.MaxMille+1), api.MaxMille)}
	if fixed {
		return oneOf(r, plain(someLength(r, false)), api.Track{Min: someLength(r, false), Max: flex}, api.Track{Min: breadth, Max: someLength(r, false)})
	}
	return oneOf(r, plain(breadth), api.Track{Min: breadth, Max: flex}, api.Track{Min: someLength(r, false), Max: breadth}, api.Track{Min: auto(), Max: flex}, fitting(someLength(r, false)))
}

// somePieces tells names and tracks by turns, one track at least.
func somePieces(r *rand.Rand, fixed bool) []api.Piece {
	var list []api.Piece
	for range 1 + r.IntN(3) {
		if r.IntN(2) == 0 {
			list = append(list, named(slices.Repeat([]string{someName(r)}, 1+r.IntN(api.MaxNames))...))
		}
		list = append(list, sized(someTrack(r, fixed)))
	}
	return list
}

func someTemplate(r *rand.Rand) []api.Piece {
	switch r.IntN(4) {
	case 0:
		return nil
	case 1:
		fill := api.Piece{Kind: oneOf(r, api.PieceFill, api.PieceFit), Inner: somePieces(r, true)}
		return append(somePieces(r, true), fill, repeated(api.MaxRepeat, somePieces(r, true)...))
	case 2:
		return slices.Repeat([]api.Piece{sized(someTrack(r, false))}, api.MaxPieces)
	}
	return append(somePieces(r, false), repeated(1+r.IntN(api.MaxRepeat), somePieces(r, false)...))
}

func someAreas(r *rand.Rand) [][]string {
	long := strings.Repeat("y", api.MaxName)
	return oneOf(r, nil, [][]string{{"a"}}, [][]string{{""}}, [][]string{{"1", "1", ""}, {"", "-b", long}},
		slices.Repeat([][]string{slices.Repeat([]string{"ü"}, api.MaxAreas)}, api.MaxAreas))
}

func someLine(r *rand.Rand) api.Line {
	n := oneOf(r, 1, 1+r.IntN(api.MaxLine), api.MaxLine)
	name := oneOf(r, "", someName(r))
	return oneOf(r, autoLine(), line(api.LineNum, n, name), line(api.LineNum, -n, name), line(api.LineName, 0, someName(r)), line(api.LineSpan, n, name))
}

func someContent(r *rand.Rand) [][]api.Box {
	box := api.Box{W: r.IntN(api.MaxPx + 1), H: oneOf(r, 0, 1, api.MaxPx)}
	return oneOf(r, nil, [][]api.Box{{box}}, [][]api.Box{{box, box}, {box}}, slices.Repeat([][]api.Box{{box}}, api.MaxWords), [][]api.Box{slices.Repeat([]api.Box{box}, api.MaxWords)})
}

// someStyle tells a style that may be.
func someStyle(r *rand.Rand) api.Style {
	tracks := func() []api.Track {
		return slices.Repeat([]api.Track{someTrack(r, false), someTrack(r, true)}, oneOf(r, 1, 2, api.MaxPieces/2))
	}
	content := func() int { return api.AlignNormal + r.IntN(8) }
	items := func() int { return api.AlignNormal + r.IntN(5) }
	self := func() int { return api.AlignAuto + r.IntN(6) }
	size := func() api.Len {
		return oneOf(r, auto(), keyword(api.LenMin), keyword(api.LenMax), someLength(r, false))
	}
	most := func() api.Len {
		return oneOf(r, keyword(api.LenNone), keyword(api.LenMin), keyword(api.LenMax), someLength(r, false))
	}
	margin := func() api.Len { return oneOf(r, auto(), someLength(r, true)) }
	return api.Style{
		Rows: someTemplate(r), Cols: someTemplate(r), Areas: someAreas(r), AutoRows: tracks(), AutoCols: tracks(),
		Column: r.IntN(2) == 0, Dense: r.IntN(2) == 0, RowGap: someLength(r, false), ColGap: someLength(r, false),
		JustifyContent: content(), AlignContent: content(), JustifyItems: items(), AlignItems: items(), JustifySelf: self(), AlignSelf: self(),
		RowStart: someLine(r), ColStart: someLine(r), RowEnd: someLine(r), ColEnd: someLine(r),
		Order: oneOf(r, 0, -api.MaxOrder, api.MaxOrder, r.IntN(api.MaxOrder)-r.IntN(api.MaxOrder)),
		Width: size(), Height: size(), MinWidth: size(), MinHeight: size(), MaxWidth: most(), MaxHeight: most(),
		Margin: [4]api.Len{margin(), margin(), margin(), margin()}, Content: someContent(r),
	}
}

func TestBack(t *testing.T) { // P11.4
	r := rand.New(rand.NewPCG(11, 4))
	for range 300 {
		s := someStyle(r)
		if !style.Good(s) {
			t.Fatalf("not good: %+v", s)
		}
		whole := atFirst()
		for _, name := range allProperties() {
			l := words(t, style.Text(s, name))
			again, n, e := style.Set(s, name, l, 0)
			if e != api.OK || n != len(l)-1 || !style.Same(again, s) {
				t.Fatalf("%s: %.80s: %d, %d, %v", name, style.Text(s, name), n, int(e), unlike(again, s))
			}
			whole, _, _ = style.Set(whole, name, l, 0)
		}
		if !style.Same(whole, s) || !reflect.DeepEqual(whole, s) {
			t.Fatalf("not the same: %v", unlike(whole, s))
		}
	}
}

// sets tells the properties that a name sets.
func sets(name string) []string {
	if list, ok := allShorthands()[name]; ok {
		return list
	}
	return []string{name}
}

func vocabulary() []string {
	return strings.Fields(`auto none normal start end center stretch space-between baseline row column dense span a b 1 2 -3 0 10001 1048577 1.5
		1px 2px -1px 5% -5% 1fr 2em 1e99px min-content max-content repeat( minmax( fit-content( auto-fill , , , / / ) ) [ ] 'a' 'a.b' '.' ; : { } inherit calc( subgrid`)
}

func TestApartAndGood(t *testing.T) { // P11.5, P11.6
	r := rand.New(rand.NewPCG(11, 5))
	read := map[string]int{}
	for range 20000 {
		s, name := oneOf(r, rich, atFirst)(), oneOf(r, readable()...)
		text := ""
		for range r.IntN(8) {
			text += oneOf(r, vocabulary()...) + " "
		}
		l := words(t, text)
		at := r.IntN(len(l) + 1)
		after, n, e := style.Set(s, name, l, at)
		if e != api.OK {
			if !reflect.DeepEqual(after, api.Style{}) || n < at || n > len(l) {
				t.Fatalf("%s: %s: %d, %v", name, text, n, unlike(after, api.Style{}))
			}
			continue
		}
		read[name]++
		if !style.Good(after) || n <= at || n > len(l) {
			t.Fatalf("%s: %s: %d, %+v", name, text, n, after)
		}
		for _, property := range allProperties() {
			if !slices.Contains(sets(name), property) && style.Text(after, property) != style.Text(s, property) {
				t.Fatalf("%s: %s: changes %s", name, text, property)
			}
		}
	}
	for _, name := range readable() {
		if read[name] < 5 {
			t.Errorf("%s: read %d times", name, read[name])
		}
	}
}

// roomy tells a list with room behind its length, in which a mark stands, and a call that tells whether the mark still does.
func roomy[T any](list []T, mark T) ([]T, func() bool) {
	whole := append(slices.Clone(list), mark)
	return whole[:len(list)], func() bool { return reflect.DeepEqual(whole[len(list)], mark) }
}

func TestKeepsWhatIsHandedIn(t *testing.T) { // DOC.md, rules 4 and 8
	s := rich()
	var kept [6]func() bool
	s.Rows, kept[0] = roomy(s.Rows, named("mark"))
	s.Cols, kept[1] = roomy(s.Cols, named("mark"))
	s.Areas, kept[2] = roomy(s.Areas, []string{"mark"})
	s.AutoRows, kept[3] = roomy(s.AutoRows, plain(px(99)))
	s.AutoCols, kept[4] = roomy(s.AutoCols, plain(px(99)))
	s.Content, kept[5] = roomy(s.Content, boxes(99, 99))
	for _, name := range append(readable(), "display", "color") {
		for _, text := range []string{"none", "auto", "1px", "2px 3px", "1px / 1px", "'a b' 1px", "5", "a / b", "start", "row dense", "2em"} {
			l, same := roomy(words(t, text), api.Token{Kind: api.TokIdent, Text: "mark"})
			style.Set(s, name, l, 0)
			if !slices.Equal(l, words(t, text)) || !same() {
				t.Fatalf("%s: %s: the words are changed", name, text)
			}
		}
		style.Text(s, name)
	}
	if !style.Good(s) || !style.Same(s, rich()) || !reflect.DeepEqual(s, rich()) {
		t.Errorf("changed: %v", unlike(s, rich()))
	}
	for i, same := range kept {
		if !same() {
			t.Errorf("the room behind list %d is changed", i)
		}
	}
}

func TestSetAgain(t *testing.T) { // a property that comes again, and shorthands with what they set
	s := atFirst()
	for _, x := range [][2]string{
		{"width", "1px"}, {"margin-left", "9px"}, {"margin", "1px 2px"}, {"margin-top", "auto"}, {"width", "2px"},
		{"grid-template-areas", "'x'"}, {"grid-template", "none"}, {"grid-row-end", "7"}, {"grid-area", "a / 2"}, {"grid-column-end", "5"},
	} {
		var e api.Errno
		if s, _, e = style.Set(s, x[0], words(t, x[1]), 0); e != api.OK {
			t.Fatal(x, int(e))
		}
	}
	want := atFirst()
	want.Width = px(2)
	want.Margin = [4]api.Len{auto(), px(2), px(1), px(2)}
	a := line(api.LineName, 0, "a")
	want.RowStart, want.ColStart, want.RowEnd, want.ColEnd = a, line(api.LineNum, 2, ""), a, line(api.LineNum, 5, "")
	if d := unlike(s, want); len(d) > 0 {
		t.Error(d)
	}
}
