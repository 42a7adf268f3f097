package leaf_test

import (
	"math"
	"math/rand/v2"
	"slices"
	"testing"

	"parterre/api"
	"parterre/box"
	"parterre/leaf"
)

// single tells words of one box each, of those widths and heights in turn.
func single(sizes ...int) [][]api.Box {
	var w [][]api.Box
	for i := 0; i < len(sizes); i += 2 {
		w = append(w, []api.Box{{W: sizes[i], H: sizes[i+1]}})
	}
	return w
}

// line tells a line in short.
func line(from, to, w, h int) leaf.Line { return leaf.Line{From: from, To: to, W: w, H: h} }

// tells asks what Lines and Height tell.
func tells(t *testing.T, w [][]api.Box, width int, want ...leaf.Line) {
	t.Helper()
	l, e := leaf.Lines(w, width)
	if !slices.Equal(l, want) || e != api.OK {
		t.Errorf("width %d: %v, %d; not %v", width, l, int(e), want)
	}
	height := 0
	for _, x := range want {
		height += x.H
	}
	if n, e := leaf.Height(w, width); n != height || e != api.OK {
		t.Errorf("width %d: height %d, %d; not %d", width, n, int(e), height)
	}
}

// wide asks what Min and Max tell.
func wide(t *testing.T, w [][]api.Box, least, most int) {
	t.Helper()
	if n, e := leaf.Min(w); n != least || e != api.OK {
		t.Errorf("Min: %d, %d; not %d", n, int(e), least)
	}
	if n, e := leaf.Max(w); n != most || e != api.OK {
		t.Errorf("Max: %d, %d; not %d", n, int(e), most)
	}
}

// fails asks that all calls tell that error, and nothing else.
func fails(t *testing.T, what string, w [][]api.Box, want api.Errno) {
	t.Helper()
	if n, e := leaf.Min(w); n != 0 || e != want {
		t.Errorf("%s: Min: %d, %d; not %d", what, n, int(e), int(want))
	}
	if n, e := leaf.Max(w); n != 0 || e != want {
		t.Errorf("%s: Max: %d, %d; not %d", what, n, int(e), int(want))
	}
	for _, width := range []int{math.MinInt, -1, 0, 1, 5, api.MaxPx, api.MaxPx + 1, math.MaxInt} {
		if l, e := leaf.Lines(w, width); len(l) != 0 || e != want {
			t.Errorf("%s, width %d: Lines: %v, %d; not %d", what, width, l, int(e), int(want))
		}
		if n, e := leaf.Height(w, width); n != 0 || e != want {
			t.Errorf("%s, width %d: Height: %d, %d; not %d", what, width, n, int(e), int(want))
		}
	}
}

func TestExample(t *testing.T) {
	w := single(10, 1, 20, 2, 5, 3)
	tells(t, w, 25, line(0, 1, 10, 1), line(1, 3, 25, 3))
	if n, _ := leaf.Height(w, 25); n != 4 {
		t.Error(n)
	}
	wide(t, w, 20, 35)
}

func TestNoWords(t *testing.T) { // P14.1, P14.2
	for _, w := range [][][]api.Box{nil, {}} {
		wide(t, w, 0, 0)
		for _, width := range []int{math.MinInt, -1, 0, 1, api.MaxPx, math.MaxInt} {
			tells(t, w, width)
		}
	}
}

func TestOneWord(t *testing.T) { // P14.1, P14.2: it stands in a line, if there is no room for it too
	for _, width := range []int{math.MinInt, -1, 0, 1, 29, 30, 31, api.MaxPx, api.MaxPx + 1, math.MaxInt} {
		tells(t, [][]api.Box{{{W: 30, H: 7}}}, width, line(0, 1, 30, 7))
		tells(t, [][]api.Box{{{W: 10, H: 3}, {W: 15, H: 7}, {W: 5, H: 4}}}, width, line(0, 1, 30, 7))
		tells(t, [][]api.Box{{{}}}, width, line(0, 1, 0, 0))
		tells(t, [][]api.Box{{{}, {}, {}}}, width, line(0, 1, 0, 0))
	}
	wide(t, [][]api.Box{{{W: 30, H: 7}}}, 30, 30)
	wide(t, [][]api.Box{{{W: 10, H: 3}, {W: 15, H: 7}, {W: 5, H: 4}}}, 30, 30)
	wide(t, [][]api.Box{{{}}}, 0, 0)
}

// three are words of several boxes: 30, 25 and 12 wide, 9, 4 and 6 high.
func three() [][]api.Box {
	return [][]api.Box{{{W: 10, H: 9}, {W: 20, H: 1}}, {{W: 25, H: 4}}, {{W: 4, H: 2}, {W: 4, H: 2}, {W: 4, H: 6}}}
}

func TestMinMax(t *testing.T) { // P14.1
	wide(t, three(), 30, 67)
	wide(t, single(1, 100, 2, 50, 3, 20), 3, 6)
	wide(t, single(3, 1, 2, 1, 1, 1), 3, 6)
	wide(t, single(1, 1, 7, 1, 3, 1), 7, 11)
	wide(t, single(0, 5, 0, 5), 0, 0)
	wide(t, [][]api.Box{{{W: 6}}, {{W: 5}, {W: 2}}}, 7, 13)
	wide(t, [][]api.Box{{{W: 6, H: 3}, {W: 0, H: 9}}, {{W: 5, H: 2}}}, 6, 11)
}

func TestLines(t *testing.T) { // P14.2: at each width where a word more has room, and one unit less
	first, second, third := line(0, 1, 30, 9), line(1, 2, 25, 4), line(2, 3, 12, 6)
	for _, width := range []int{math.MinInt, -67, -1, 0, 1, 11, 12, 25, 29, 30, 36} {
		tells(t, three(), width, first, second, third)
	}
	for _, width := range []int{37, 38, 54} {
		tells(t, three(), width, first, line(1, 3, 37, 6))
	}
	for _, width := range []int{55, 56, 66} {
		tells(t, three(), width, line(0, 2, 55, 9), third)
	}
	for _, width := range []int{67, 68, 1000, api.MaxPx, api.MaxPx + 1, math.MaxInt - 1, math.MaxInt} {
		tells(t, three(), width, line(0, 3, 67, 9))
	}
}

func TestManyLines(t *testing.T) { // P14.2
	w := single(5, 1, 5, 2, 5, 3, 5, 4, 5, 5, 5, 6, 5, 7)
	tells(t, w, 4, line(0, 1, 5, 1), line(1, 2, 5, 2), line(2, 3, 5, 3), line(3, 4, 5, 4), line(4, 5, 5, 5), line(5, 6, 5, 6), line(6, 7, 5, 7))
	tells(t, w, 10, line(0, 2, 10, 2), line(2, 4, 10, 4), line(4, 6, 10, 6), line(6, 7, 5, 7))
	tells(t, w, 14, line(0, 2, 10, 2), line(2, 4, 10, 4), line(4, 6, 10, 6), line(6, 7, 5, 7))
	tells(t, w, 15, line(0, 3, 15, 3), line(3, 6, 15, 6), line(6, 7, 5, 7))
	tells(t, w, 20, line(0, 4, 20, 4), line(4, 7, 15, 7))
	tells(t, w, 35, line(0, 7, 35, 7))
	tells(t, single(2, 9, 8, 1, 9, 2, 1, 8), 10, line(0, 2, 10, 9), line(2, 4, 10, 8))
}

func TestWordsOfNoWidth(t *testing.T) { // P14.2: one has room wherever the words ahead of it have
	w := single(0, 1, 10, 2, 0, 3, 0, 4, 10, 5, 0, 6)
	tells(t, w, -1, line(0, 1, 0, 1), line(1, 2, 10, 2), line(2, 3, 0, 3), line(3, 4, 0, 4), line(4, 5, 10, 5), line(5, 6, 0, 6))
	tells(t, w, 0, line(0, 1, 0, 1), line(1, 2, 10, 2), line(2, 4, 0, 4), line(4, 5, 10, 5), line(5, 6, 0, 6))
	tells(t, w, 9, line(0, 1, 0, 1), line(1, 2, 10, 2), line(2, 4, 0, 4), line(4, 5, 10, 5), line(5, 6, 0, 6))
	tells(t, w, 10, line(0, 4, 10, 4), line(4, 6, 10, 6))
	tells(t, w, 19, line(0, 4, 10, 4), line(4, 6, 10, 6))
	tells(t, w, 20, line(0, 6, 20, 6))
	none := single(0, 1, 0, 0, 0, 2)
	tells(t, none, 0, line(0, 3, 0, 2))
	tells(t, none, 1, line(0, 3, 0, 2))
	for _, width := range []int{-1, math.MinInt} {
		tells(t, none, width, line(0, 1, 0, 1), line(1, 2, 0, 0), line(2, 3, 0, 2))
	}
}

func TestBoxesOfNoHeight(t *testing.T) { // P14.2
	tells(t, single(5, 0, 5, 0), 5, line(0, 1, 5, 0), line(1, 2, 5, 0))
	tells(t, single(5, 0, 5, 0), 10, line(0, 2, 10, 0))
	tells(t, [][]api.Box{{{W: 5, H: 0}, {W: 1, H: 3}}, {{W: 5, H: 0}}}, 6, line(0, 1, 6, 3), line(1, 2, 5, 0))
	tells(t, single(0, 0, 0, 0), 0, line(0, 2, 0, 0))
}

func TestWordsThatMayNotBe(t *testing.T) { // the section Words
	word := []api.Box{{W: 1, H: 1}}
	for what, w := range map[string][][]api.Box{
		"a word without a box":      {{}},
		"a nil word":                {nil},
		"one behind a word":         {word, {}},
		"one ahead of a word":       {{}, word},
		"a width below 0":           single(-1, 1),
		"a height below 0":          single(1, -1),
		"a later width below 0":     single(1, 1, 5, 5, -1, 1),
		"a later height below 0":    {{{W: 1, H: 1}, {W: 1, H: -1}}},
		"a width beyond the limit":  single(api.MaxPx+1, 1),
		"a height beyond the limit": single(1, api.MaxPx+1),
		"the greatest width":        single(math.MaxInt, 1),
		"the greatest height":       single(1, math.MaxInt),
		"the least width":           single(math.MinInt, 1),
		"the least height":          single(1, math.MinInt),
		"a box too many in a word":  {make([]api.Box, api.MaxWords+1)},
		"a word too many":           single(make([]int, 2*api.MaxWords+2)...),
		"a box too many at the end": {make([]api.Box, api.MaxWords), word},
	} {
		if box.WordsGood(w) {
			t.Fatal(what)
		}
		fails(t, what, w, api.ErrArg)
	}
}

func TestMaxWords(t *testing.T) { // P14.2, at the limit
	w := single(slices.Repeat([]int{3, 2}, api.MaxWords)...)
	wide(t, w, 3, 3*api.MaxWords)
	tells(t, w, 3*api.MaxWords, line(0, api.MaxWords, 3*api.MaxWords, 2))
	tells(t, w, 3*api.MaxWords-1, line(0, api.MaxWords-1, 3*api.MaxWords-3, 2), line(api.MaxWords-1, api.MaxWords, 3, 2))
	if n, e := leaf.Height(w, 2); n != 2*api.MaxWords || e != api.OK {
		t.Error(n, int(e))
	}
	one := [][]api.Box{slices.Repeat([]api.Box{{W: 3, H: 2}}, api.MaxWords)}
	wide(t, one, 3*api.MaxWords, 3*api.MaxWords)
	tells(t, one, 1, line(0, 1, 3*api.MaxWords, 2))
}

func TestOver(t *testing.T) { // the section Words: sums that are just a length, and one more
	const half = api.MaxPx / 2
	tells(t, single(api.MaxPx, api.MaxPx), 0, line(0, 1, api.MaxPx, api.MaxPx))
	wide(t, single(api.MaxPx, api.MaxPx), api.MaxPx, api.MaxPx)
	just := single(half, 1, half-1, 2, 1, 3)
	wide(t, just, half, api.MaxPx)
	tells(t, just, api.MaxPx, line(0, 3, api.MaxPx, 3))
	tells(t, just, api.MaxPx-1, line(0, 2, api.MaxPx-1, 2), line(2, 3, 1, 3))
	high := single(1, half, 2, half-1, 3, 1)
	wide(t, high, 3, 6)
	tells(t, high, 0, line(0, 1, 1, half), line(1, 2, 2, half-1), line(2, 3, 3, 1))
	if n, e := leaf.Height(high, 0); n != api.MaxPx || e != api.OK {
		t.Error(n, int(e))
	}
	tells(t, [][]api.Box{{{W: half, H: half}, {W: half, H: half}}}, 0, line(0, 1, api.MaxPx, half))
	for what, w := range map[string][][]api.Box{
		"W of words":      single(half, 0, half, 0, 1, 0),
		"W of a word":     {{{W: api.MaxPx}, {W: 1}}},
		"W of two words":  {{{W: api.MaxPx}}, {{W: 1}}},
		"W, the 1 first":  single(1, 1, api.MaxPx, 1),
		"H of words":      single(0, half, 0, half, 0, 1),
		"H of a word":     {{{H: api.MaxPx}, {H: 1}}}, // its boxes stand side by side, but all H count
		"H of two words":  {{{H: api.MaxPx}}, {{H: 1}}},
		"H, the 1 first":  single(1, 1, 1, api.MaxPx),
		"both":            single(api.MaxPx, api.MaxPx, 1, 1),
		"all that may be": single(slices.Repeat([]int{api.MaxPx}, 2*api.MaxWords)...),
	} {
		fails(t, what, w, api.ErrOver)
		fails(t, what+", a word without a box behind it", append(w, nil), api.ErrArg)
		fails(t, what+", a length that is none behind it", append(w, []api.Box{{W: -1}}), api.ErrArg)
	}
}

// content tells words by chance, some of no width.
func content(random *rand.Rand) [][]api.Box {
	w := make([][]api.Box, random.IntN(12))
	for i := range w {
		w[i] = make([]api.Box, 1+random.IntN(3))
		for k := range w[i] {
			w[i][k] = api.Box{W: max(0, random.IntN(12)-3), H: max(0, random.IntN(9)-2)}
		}
	}
	return w
}

// measures tells the sum of some words' widths, and the greatest height.
func measures(w [][]api.Box) (wide, high int) {
	for _, word := range w {
		for _, b := range word {
			wide += b.W
			high = max(high, b.H)
		}
	}
	return wide, high
}

func TestWhatFollows(t *testing.T) { // P14.3 to P14.6
	random := rand.New(rand.NewPCG(14, 3))
	for range 500 {
		w := content(random)
		least, e := leaf.Min(w)
		most, e2 := leaf.Max(w)
		if e != api.OK || e2 != api.OK {
			t.Fatal(int(e), int(e2))
		}
		ahead := math.MaxInt
		for width := -2; width < most+3; width++ {
			l, e := leaf.Lines(w, width)
			if e != api.OK || len(l) > ahead {
				t.Fatalf("%v, width %d: %d lines, %d with less, %d", w, width, len(l), ahead, int(e))
			}
			ahead = len(l)
			holds(t, w, l, width, least)
			if width >= most && len(l) != min(1, len(w)) {
				t.Errorf("%v, width %d: %v", w, width, l)
			}
		}
	}
}

// holds asks whether lines are those of words.
func holds(t *testing.T, w [][]api.Box, l []leaf.Line, width, least int) {
	t.Helper()
	next, height := 0, 0
	for i, x := range l {
		if x.From != next || x.To <= x.From || x.To > len(w) {
			t.Fatalf("%v, width %d: %v", w, width, l)
		}
		if wide, high := measures(w[x.From:x.To]); x.W != wide || x.H != high || wide > max(width, least) {
			t.Errorf("%v, width %d: %v", w, width, x)
		}
		if i+1 < len(l) {
			if first, _ := measures(w[x.To : x.To+1]); x.W+first <= width {
				t.Errorf("%v, width %d: %v has room", w, width, x)
			}
		}
		if x.To-x.From > 1 && x.W > width {
			t.Errorf("%v, width %d: %v has a word too many", w, width, x)
		}
		next = x.To
		height += x.H
	}
	if n, e := leaf.Height(w, width); next != len(w) || n != height || e != api.OK {
		t.Errorf("%v, width %d: %v, height %d", w, width, l, n)
	}
}

func TestNothingIsChanged(t *testing.T) {
	full := append(three(), []api.Box{{W: 99, H: 99}, {W: 98, H: 98}})
	full[3] = full[3][:1]
	want := [][]api.Box{slices.Clone(full[0]), slices.Clone(full[1]), slices.Clone(full[2]), slices.Clone(full[3][:2])}
	w := full[:3]
	for width := -1; width < 70; width++ {
		leaf.Min(w)
		leaf.Max(w)
		leaf.Lines(full, width)
		leaf.Lines(w, width)
		leaf.Height(w, width)
	}
	full[3] = full[3][:2]
	if !box.WordsSame(full, want) {
		t.Error(full)
	}
	tells(t, w, 67, line(0, 3, 67, 9)) // what lies behind the list is not read
	tells(t, append(w[:2:2], full[3][:1]), 154, line(0, 3, 154, 99))
	a, _ := leaf.Lines(w, 0)
	a[0].W = -1
	tells(t, w, 0, line(0, 1, 30, 9), line(1, 2, 25, 4), line(2, 3, 12, 6))
}
