package track_test

import (
	"math"
	"slices"
	"strconv"
	"strings"
	"testing"

	"parterre/api"
	"parterre/track"
)

func TestFixed(t *testing.T) { // P6.3
	kinds := []api.Len{px(1), pct(1), auto, least, greatest, fr(1), kind(api.LenNone), {}, kind(8)}
	for _, a := range kinds {
		for _, b := range kinds {
			want := a.Kind == api.LenPx || a.Kind == api.LenPct || b.Kind == api.LenPx || b.Kind == api.LenPct
			if track.Fixed(minmax(a, b)) != want {
				t.Errorf("%v and %v: not %v", a, b, want)
			}
			if track.Fixed(api.Track{Min: a, Max: b, Fit: true}) {
				t.Errorf("%v and %v, which fit", a, b)
			}
		}
	}
	if track.Fixed(fit(px(1))) || track.Fixed(api.Track{Limit: px(1)}) {
		t.Error("a limit is fixed")
	}
}

// rightSizes are tracks that may be, with their texts.
func rightSizes() map[api.Track]string {
	most := api.Len{Kind: api.LenPx, N: api.MaxPx}
	return map[api.Track]string{
		minmax(px(10), px(10)): "10px", minmax(px(0), px(0)): "0px", minmax(most, most): "1073741824px", minmax(pct(50), pct(50)): "50%", minmax(auto, auto): "auto", minmax(least, least): "min-content", minmax(greatest, greatest): "max-content",
		minmax(auto, fr(1)): "1fr", minmax(auto, fr(0)): "0fr", minmax(auto, api.Len{Kind: api.LenFr, N: api.MaxMille}): "1073741.824fr",
		minmax(px(10), fr(1)): "minmax(10px, 1fr)", minmax(least, fr(2)): "minmax(min-content, 2fr)", minmax(px(10), px(20)): "minmax(10px, 20px)", minmax(px(0), pct(0)): "minmax(0px, 0%)", minmax(auto, greatest): "minmax(auto, max-content)", minmax(greatest, auto): "minmax(max-content, auto)", minmax(pct(100), least): "minmax(100%, min-content)",
		minmax(api.Len{Kind: api.LenPct, N: api.MaxMille}, most): "minmax(1073741.824%, 1073741824px)",
		fit(px(10)): "fit-content(10px)", fit(pct(50)): "fit-content(50%)", fit(px(0)): "fit-content(0px)", fit(most): "fit-content(1073741824px)",
	}
}

// wrongSizes are tracks that no words could make.
func wrongSizes() []api.Track {
	l := []api.Track{
		{}, {Fit: true}, {Limit: px(1)}, {Min: auto}, {Max: auto}, {Max: px(1)},
		{Min: px(1), Max: px(1), Limit: px(1)}, {Min: auto, Max: greatest, Limit: px(1)}, {Min: auto, Max: fr(1), Limit: auto}, {Min: px(1), Max: px(1), Limit: api.Len{N: 1}},
		{Min: px(1), Max: px(1), Fit: true}, {Min: px(1), Max: px(1), Fit: true, Limit: px(1)}, {Min: auto, Max: auto, Fit: true, Limit: px(1)}, {Min: least, Max: greatest, Fit: true, Limit: px(1)}, {Min: auto, Max: least, Fit: true, Limit: px(1)}, {Max: greatest, Fit: true, Limit: px(1)}, {Min: auto, Fit: true, Limit: px(1)}, {Min: api.Len{Kind: api.LenAuto, N: 1}, Max: greatest, Fit: true, Limit: px(1)}, {Min: auto, Max: api.Len{Kind: api.LenMax, N: 1}, Fit: true, Limit: px(1)},
		minmax(fr(1), fr(1)), minmax(fr(1), px(1)), minmax(auto, kind(api.LenNone)), minmax(kind(api.LenNone), kind(api.LenNone)), minmax(kind(api.LenNone), px(1)),
		fit(auto), fit(least), fit(greatest), fit(fr(1)), fit(kind(api.LenNone)), fit(api.Len{}), fit(api.Len{N: 1}),
	}
	for _, v := range []api.Len{
		px(-1), pct(-1), {Kind: api.LenPx, N: api.MaxPx + 1}, {Kind: api.LenPct, N: api.MaxMille + 1}, {Kind: api.LenPx, N: math.MinInt}, {Kind: api.LenAuto, N: 1}, {Kind: api.LenMin, N: 1}, {Kind: api.LenMax, N: -1}, kind(8), kind(-1), {Kind: 0, N: 1},
	} {
		l = append(l, minmax(v, v), minmax(v, auto), minmax(px(1), v), fit(v))
	}
	for _, n := range []int{-1, api.MaxMille + 1, math.MaxInt} {
		l = append(l, minmax(auto, api.Len{Kind: api.LenFr, N: n}), minmax(px(1), api.Len{Kind: api.LenFr, N: n}))
	}
	return l
}

func TestRight(t *testing.T) { // P6.3, P6.4
	for x, text := range rightSizes() {
		if !track.Right(x) || track.SizeText(x) != text {
			t.Errorf("%v: %v, %q, not %q", x, track.Right(x), track.SizeText(x), text)
		}
		if !track.Good(list(size(x))) || track.Text(list(size(x))) != text {
			t.Errorf("%v as a template: %q", x, track.Text(list(size(x))))
		}
		l := words(t, text)
		if r, n, e := track.Size(l, 0); r != x || n != len(l)-1 || e != api.OK {
			t.Errorf("%s: %v, %d, %d", text, r, n, int(e))
		}
	}
	for _, x := range wrongSizes() {
		if track.Right(x) || track.SizeText(x) != "" || track.Good(list(size(x))) || track.Text(list(size(x))) != "" || track.Good(list(repeat(2, size(x)))) {
			t.Errorf("%v: %v, %q", x, track.Right(x), track.SizeText(x))
		}
	}
}

// goodTemplates are templates that may be, with their texts.
func goodTemplates() map[string][]api.Piece {
	a, b, ten := names("a"), names("b"), both(px(10))
	manyNames := strings.Fields(times(api.MaxNames, "n"))
	return map[string][]api.Piece{
		"none": nil, "10px": list(ten), "[a] 10px [b]": list(a, ten, b), "[a b] 10px": list(names("a", "b"), ten), "10px 10px": list(ten, ten),
		"[" + times(api.MaxNames, "n") + "] 10px":           list(names(manyNames...), ten),
		`[\31 a \31  a\ b \-] 10px`:                         list(names("1a", "1", "a b", "-"), ten),
		"repeat(1, 10px)":                                   list(repeat(1, ten)),
		"repeat(10000, [a] 1fr [b] auto)":                   list(repeat(api.MaxRepeat, a, flexible(1), b, both(auto))),
		"repeat(2, 10px) repeat(2, 10px)":                   list(repeat(2, ten), repeat(2, ten)),
		"[a] repeat(auto-fill, [a] 10px [b]) [b]":           list(a, fill(a, ten, b), b),
		"repeat(auto-fit, 10px minmax(auto, 50%))":          list(fits(ten, size(minmax(auto, pct(50))))),
		"10px repeat(auto-fit, 10px) repeat(3, 10px 0%)":    list(ten, fits(ten), repeat(3, ten, both(pct(0)))),
		"fit-content(50%) minmax(10px, 1fr) min-content":    list(size(fit(pct(50))), size(minmax(px(10), fr(1))), both(least)),
		times(api.MaxPieces, "10px"):                        slices.Repeat(list(ten), api.MaxPieces),
		"repeat(2, " + times(api.MaxPieces-1, "10px") + ")": list(repeat(2, slices.Repeat(list(ten), api.MaxPieces-1)...)),
		times(api.MaxPieces/2, "repeat(2, 10px)"):           slices.Repeat(list(repeat(2, ten)), api.MaxPieces/2),
	}
}

func TestGood(t *testing.T) { // P6.3, P6.4
	for text, l := range goodTemplates() {
		if !track.Good(l) || track.Text(l) != text {
			t.Errorf("%v: %v, %q, not %q", l, track.Good(l), track.Text(l), text)
		}
		reads(t, text, len(words(t, text))-1, l)
	}
	if !track.Good([]api.Piece{}) || track.Text([]api.Piece{}) != "none" {
		t.Error("a list without pieces")
	}
	empty := list(api.Piece{Kind: api.PieceTrack, Track: minmax(auto, auto), Names: []string{}, Inner: []api.Piece{}})
	if !track.Good(empty) || track.Text(empty) != "auto" {
		t.Error("a piece with empty lists")
	}
}

// wrongTemplates are templates that no words could make.
func wrongTemplates() [][]api.Piece {
	a, b, ten := names("a"), names("b"), both(px(10))
	one := minmax(px(1), px(1))
	tens := func(n int) []api.Piece { return slices.Repeat(list(ten), n) }
	l := [][]api.Piece{
		list(a), list(a, b, ten), list(ten, a, b), list(repeat(2, a, b, ten)), list(repeat(2, ten, a, a)), list(fill(ten), fill(ten)), list(fill(ten), ten, fits(ten)), list(fits(ten), fits(ten)),
		list(fill(flexible(1))), list(fits(both(auto))), list(fill(size(fit(px(1))))), list(fill(ten), flexible(1)), list(both(least), fits(ten)), list(fits(ten), repeat(2, flexible(1))), list(repeat(2, ten, both(greatest)), fill(ten)),
		list(repeat(0, ten)), list(repeat(-1, ten)), list(repeat(api.MaxRepeat+1, ten)), list(repeat(math.MaxInt, ten)), list(repeat(math.MinInt, ten)), list(repeat(2)), list(repeat(2, a)), list(fill()), list(fits(a)), list(repeat(2), ten), list(ten, fill()),
		list(repeat(2, repeat(2, ten))), list(repeat(2, fill(ten))), list(fill(repeat(2, ten))), list(repeat(2, ten, fits(ten))),
		tens(api.MaxPieces + 1), list(repeat(2, tens(api.MaxPieces)...)), append(tens(api.MaxPieces-1), repeat(2, ten)), slices.Repeat(list(repeat(2, ten, a)), 86),
		// fields that should be zero
		list(api.Piece{}), list(api.Piece{}, ten), list(api.Piece{Kind: 6, Track: one}), list(api.Piece{Kind: -1, Track: one}), list(ten, api.Piece{Kind: math.MaxInt}),
		list(api.Piece{Kind: api.PieceNames, Names: []string{"a"}, Track: one}, ten), list(api.Piece{Kind: api.PieceNames, Names: []string{"a"}, Count: 1}, ten), list(api.Piece{Kind: api.PieceNames, Names: []string{"a"}, Inner: list(ten)}, ten), list(api.Piece{Kind: api.PieceNames, Names: []string{"a"}, Track: api.Track{Limit: auto}}, ten),
		list(api.Piece{Kind: api.PieceTrack, Track: one, Names: []string{"a"}}), list(api.Piece{Kind: api.PieceTrack, Track: one, Names: []string{""}}), list(api.Piece{Kind: api.PieceTrack, Track: one, Count: 1}), list(api.Piece{Kind: api.PieceTrack, Track: one, Count: -1}), list(api.Piece{Kind: api.PieceTrack, Track: one, Inner: list(ten)}), list(api.Piece{Kind: api.PieceTrack}),
		list(repeat(2, api.Piece{Kind: api.PieceTrack, Track: one, Count: 1})), list(repeat(2, api.Piece{Kind: api.PieceTrack, Track: one, Names: []string{"a"}})), list(repeat(2, api.Piece{Kind: api.PieceTrack, Track: one, Inner: list(a)})), list(repeat(2, ten, api.Piece{Kind: api.PieceNames, Names: []string{"a"}, Track: one})), list(repeat(2, ten, api.Piece{})),
	}
	for _, kind := range []int{api.PieceRepeat, api.PieceFill, api.PieceFit} {
		count := 0
		if kind == api.PieceRepeat {
			count = 1
		}
		l = append(l, list(api.Piece{Kind: kind, Count: count, Inner: list(ten), Names: []string{"a"}}), list(api.Piece{Kind: kind, Count: count, Inner: list(ten), Track: one}), list(api.Piece{Kind: kind, Count: count, Inner: list(ten), Track: api.Track{Fit: true}}), list(api.Piece{Kind: kind, Count: count - 1, Inner: list(ten)}))
	}
	return append(l, list(api.Piece{Kind: api.PieceFill, Count: 1, Inner: list(ten)}), list(api.Piece{Kind: api.PieceFit, Count: 1, Inner: list(ten)}))
}

func TestNotGood(t *testing.T) { // P6.3, P6.4
	l := wrongTemplates()
	for _, n := range []api.Piece{names(), names("auto"), names("a", "SPAN"), names(""), names("a\x00"), names(strings.Repeat("x", api.MaxName+1)), names(strings.Fields(times(api.MaxNames+1, "a"))...)} {
		l = append(l, list(n, both(auto)), list(repeat(2, both(auto), n)), list(both(auto), n))
	}
	for _, p := range l {
		if track.Good(p) || track.Text(p) != "" {
			t.Errorf("%.200v: %v, %q", p, track.Good(p), track.Text(p))
		}
	}
	// A repeat within itself is no template, and asking that comes to an end.
	for _, kind := range []int{api.PieceNames, api.PieceTrack, api.PieceRepeat, api.PieceFill, api.PieceFit} {
		ring := list(api.Piece{Kind: kind, Count: 1, Track: minmax(px(1), px(1))}, both(px(1)))
		ring[0].Inner = ring
		if kind >= api.PieceRepeat {
			ring[0].Track = api.Track{}
		}
		if kind > api.PieceRepeat {
			ring[0].Count = 0
		}
		if track.Good(ring) || track.Text(ring) != "" {
			t.Errorf("a ring of kind %d", kind)
		}
	}
}

func TestSame(t *testing.T) { // P6.3
	var l [][]api.Piece
	for _, p := range goodTemplates() {
		l = append(l, p)
	}
	l = append(l, wrongTemplates()...)
	l = append(l, list(names("a", "b"), both(auto)), list(names("b", "a"), both(auto)), list(names("A", "b"), both(auto)), list(names("a")), list(names("a"), names("a")), list(repeat(2, repeat(2, repeat(2, names("a"))))), list(repeat(2, repeat(2, repeat(2, names("b"))))), list(api.Piece{Count: 1}), list(api.Piece{Track: api.Track{Fit: true}}), list(api.Piece{Track: api.Track{Limit: auto}}), list(api.Piece{Names: []string{""}}), list(api.Piece{Inner: list(api.Piece{})}))
	for i, a := range l {
		for k, b := range l {
			if track.Same(a, b) != equal(a, b) || i == k && !track.Same(a, slices.Clone(b)) {
				t.Errorf("%.200v and %.200v: %v", a, b, track.Same(a, b))
			}
		}
	}
	if !track.Same(nil, []api.Piece{}) || !track.Same(list(api.Piece{Names: []string{}, Inner: []api.Piece{}}), list(api.Piece{})) {
		t.Error("lists without elements")
	}
	deep, other := list(names("a")), list(names("b"))
	for range 1 << 12 {
		deep, other = list(repeat(2, deep...)), list(repeat(2, other...))
	}
	if !track.Same(deep, deep) || track.Same(deep, other) {
		t.Error("deep lists")
	}
}

// chance yields numbers below n that are the same in each run.
func chance(seed uint64) func(n int) int {
	return func(n int) int {
		seed = seed*6364136223846793005 + 1442695040888963407
		return int((seed >> 20) % uint64(n))
	}
}

// made tells a template that may be, by chance; of fixed tracks alone, if one fills.
func made(next func(n int) int) []api.Piece {
	fills := next(3) == 0
	length := func(kinds int) api.Len {
		n := []int{0, 1, 63, 64, 1000, 1500, api.MaxMille}[next(7)]
		return []api.Len{{Kind: api.LenPx, N: n}, {Kind: api.LenPct, N: n}, auto, least, greatest, {Kind: api.LenFr, N: n}}[next(kinds)]
	}
	some := func() api.Track {
		for {
			t := minmax(length(5), length(6))
			switch next(4) {
			case 0:
				t = fit(length(2))
			case 1:
				t = minmax(t.Min, t.Min)
			}
			if !fills || track.Fixed(t) {
				return t
			}
		}
	}
	name := func() string {
		return []string{"a", "b", "A", "none", "1", "-1", "-", "--", "a b", "é", "\x01", "\xff", "]", "\\", "a\n", "repeat(", "x1"}[next(17)]
	}
	var pieces func(n int, inner bool) []api.Piece
	pieces = func(n int, inner bool) []api.Piece {
		var l []api.Piece
		for i := range n {
			if next(2) == 0 {
				p := names(name())
				for range next(3) {
					p.Names = append(p.Names, name())
				}
				l = append(l, p)
			}
			if !inner && next(4) == 0 {
				l = append(l, repeat(1+next(api.MaxRepeat), pieces(1+next(3), true)...))
			} else if !inner && fills && i == 0 {
				l = append(l, api.Piece{Kind: api.PieceFill + next(2), Inner: pieces(1+next(3), true)})
			} else {
				l = append(l, size(some()))
			}
		}
		if next(2) == 0 {
			l = append(l, names(name()))
		}
		return l
	}
	return pieces(1+next(4), false)
}

func TestBack(t *testing.T) { // P6.5
	next := chance(6)
	for range 5000 {
		p := made(next)
		text := track.Text(p)
		if !track.Good(p) || text == "" {
			t.Fatalf("%v may not be", p)
		}
		reads(t, text, len(words(t, text))-1, p)
		// Empty brackets, blanks and comments change nothing, nor do great letters.
		loose := strings.ReplaceAll(text, "repeat(", "[] /* */ REPEAT( ")
		reads(t, loose, len(words(t, loose))-1, p)
	}
}

func TestOne(t *testing.T) { // P6.6; and what a reader tells of any words
	next := chance(66)
	parts := strings.Fields("[ ] [ ] a [a] [b] [] 10px 50% 0 1fr auto min-content none minmax(1px,1fr) minmax(auto,1FR) minmax(2px,2px) fit-content(5%) minmax( fit-content( repeat( repeat(2, repeat(3, repeat(auto-fill, repeat(auto-fit, 2 , ) ) ) auto-fill / 1em repeat(auto-fill,10px) repeat(auto-fit,[a]5%)")
	read, filled := 0, 0
	for range 100000 {
		text := ""
		for range next(8) {
			text += parts[next(len(parts))] + " "
		}
		l := words(t, text)
		at := next(len(l))
		p, n, e := track.Template(l, at)
		if n < at || n >= len(l) || e != api.OK && len(p) > 0 {
			t.Fatalf("%s at %d: %v, %d, %d", text, at, p, n, int(e))
		}
		if e != api.OK {
			continue
		}
		read++
		again := track.Text(p)
		if strings.Contains(again, "auto-f") {
			filled++
		}
		if !track.Good(p) || (len(p) == 0) != (l[at].Text == "none") {
			t.Fatalf("%s at %d: %v", text, at, p)
		}
		q, _, f := track.Template(words(t, again), 0)
		if f != api.OK || !equal(p, q) || track.Text(q) != again {
			t.Fatalf("%s at %d: %q; %v, %d", text, at, again, q, int(f))
		}
	}
	if read < 10000 || filled < 100 {
		t.Error("few were read:", read, filled)
	}
}

func TestAnyWords(t *testing.T) { // rule 1: words that no text has
	next := chance(666)
	kinds := []int{api.TokIdent, api.TokFunc, api.TokNum, api.TokPct, api.TokDim, api.TokString, api.TokSign, api.TokEnd, 0, -1, 9}
	texts := []string{"", "[", "]", ",", ")", "a", "auto", "repeat", "minmax", "fit-content", "auto-fill", "px", "fr", "\x00"}
	nums := []string{"", "0", "1", "2", "-", "x", "1e", "1e9", strings.Repeat("1", 400), strconv.Itoa(math.MaxInt)}
	for range 50000 {
		l := make([]api.Token, next(8))
		for i := range l {
			l[i] = api.Token{Kind: kinds[next(len(kinds))], Text: texts[next(len(texts))], Num: nums[next(len(nums))], At: next(100)}
		}
		ahead := slices.Clone(l)
		at := next(len(l) + 1)
		if p, n, e := track.Template(l, at); n < at || n > len(l) || e == api.OK && (n == at || !track.Good(p)) {
			t.Fatalf("Template of %v at %d: %v, %d, %d", l, at, p, n, int(e))
		}
		if p, n, e := track.Sizes(l, at); n < at || n > len(l) || e == api.OK && (n == at || len(p) == 0 || !track.Right(p[0])) {
			t.Fatalf("Sizes of %v at %d: %v, %d, %d", l, at, p, n, int(e))
		}
		if p, n, e := track.Names(l, at); n < at || n > len(l) || e == api.OK && n != at+2+len(p) {
			t.Fatalf("Names of %v at %d: %v, %d, %d", l, at, p, n, int(e))
		}
		if !slices.Equal(l, ahead) {
			t.Fatalf("%v was changed to %v", ahead, l)
		}
	}
}

func TestUnchanged(t *testing.T) { // rules 4 and 8
	fresh := func() []api.Piece {
		return list(names("a", "b"), repeat(2, both(px(1)), names("c")), names("d"), flexible(1))
	}
	p := fresh()
	for n := range len(p) + 1 {
		part := p[:n]
		if track.Good(part) == (n == 1) || (track.Text(part) == "") != (n == 1) || track.Same(part, p) != (n == len(p)) {
			t.Errorf("%v: %v, %q", part, track.Good(part), track.Text(part))
		}
	}
	if !equal(p, fresh()) {
		t.Error(p)
	}
}
