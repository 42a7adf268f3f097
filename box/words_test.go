package box_test

import (
	"math"
	"slices"
	"strings"
	"testing"

	"parterre/api"
	"parterre/box"
)

func pxBox(w, h int) api.Box { return api.Box{W: w * api.Unit, H: h * api.Unit} }

func unitBox(w, h int) api.Box { return api.Box{W: w, H: h} }

// content is words of boxes.
type content = [][]api.Box

func wordsRead(t *testing.T, s string, next int, want content) {
	t.Helper()
	for l, at := range surroundings(t, s) {
		w, n, e := box.Words(l, at)
		same := slices.EqualFunc(w, want, slices.Equal[[]api.Box])
		if !same || n != at+next || e != api.OK || !box.WordsGood(w) || !box.WordsSame(w, want) {
			t.Errorf("Words of %.80q at %d: %v, %d, %d; not %v, %d", s, at, w, n, int(e), want, at+next)
		}
	}
}

func wordsFail(t *testing.T, s string, place int, want api.Errno) {
	t.Helper()
	for l, at := range surroundings(t, s) {
		if w, n, e := box.Words(l, at); len(w) != 0 || n != at+place || e != want {
			t.Errorf("Words of %.80q at %d: %v, %d, %d; not %d, %d", s, at, w, n, int(e), at+place, int(want))
		}
	}
}

func TestWords(t *testing.T) { // P9.4
	a, b, c := pxBox(1, 2), pxBox(3, 4), pxBox(5, 6)
	wordsRead(t, "none", 1, nil)
	wordsRead(t, "NONE", 1, nil)
	wordsRead(t, `n\6fne`, 1, nil)
	wordsRead(t, "none none", 1, nil)
	wordsRead(t, "none / 1px 2px", 1, nil)
	wordsRead(t, "none, 2em", 1, nil)
	wordsRead(t, "1px 2px", 2, content{{a}})
	wordsRead(t, "1px 2px, 3px 4px", 5, content{{a, b}})
	wordsRead(t, "1px 2px / 3px 4px", 5, content{{a}, {b}})
	wordsRead(t, "1px 2px,3px 4px/5px 6px", 8, content{{a, b}, {c}})
	wordsRead(t, "1px 2px/3px 4px,5px 6px", 8, content{{a}, {b, c}})
	wordsRead(t, "1px 2px/3px 4px/5px 6px", 8, content{{a}, {b}, {c}})
	wordsRead(t, "1PX/**/2Px", 2, content{{a}})
	wordsRead(t, "0 0", 2, content{{unitBox(0, 0)}})
	wordsRead(t, "-0 +0.0e7, 0px -0px", 5, content{{unitBox(0, 0), unitBox(0, 0)}})
	wordsRead(t, "1073741824px 0.015625px / 0 1073741824px", 5, content{{unitBox(api.MaxPx, 1)}, {unitBox(0, api.MaxPx)}})
}

func TestWordsEnd(t *testing.T) { // P9.4: what ends content is left
	a := content{{pxBox(1, 2)}}
	for _, end := range []string{"", ";", "}", ":", "(", "[", "3px", "3px 4px", "2em", "inherit", "1e99px", "none", "'/'", "a", `\/`, "3", "calc("} {
		wordsRead(t, "1px 2px "+end, 2, a)
		wordsRead(t, "1px 2px , 1px 2px / 1px 2px "+end, 8, content{{a[0][0], a[0][0]}, a[0]})
	}
}

func TestWordsErrors(t *testing.T) { // P9.4
	wordsFail(t, "", 0, api.ErrSyntax)
	wordsFail(t, "1px", 1, api.ErrSyntax)
	wordsFail(t, "1px, 2px 3px", 1, api.ErrSyntax)
	wordsFail(t, "1px / 2px 3px", 1, api.ErrSyntax)
	wordsFail(t, "/ 1px 2px", 0, api.ErrSyntax)
	wordsFail(t, ", 1px 2px", 0, api.ErrSyntax)
	for _, s := range []string{"/", ","} {
		wordsFail(t, "1px 2px "+s, 3, api.ErrSyntax)
		wordsFail(t, "1px 2px "+s+";", 3, api.ErrSyntax)
		wordsFail(t, "1px 2px "+s+" 3px", 4, api.ErrSyntax)
		wordsFail(t, "1px 2px "+s+" none", 3, api.ErrSyntax)
		for _, again := range []string{"/", ","} {
			wordsFail(t, "1px 2px "+s+" "+again+" 3px 4px", 3, api.ErrSyntax)
		}
	}
	wrong := foreignSizes()
	for _, s := range append(noSizes(), "auto", "50%", "0%", "-1px", "-0.015625px", "-1073741824px") {
		if s != "none" {
			wrong[s] = api.ErrSyntax
		}
	}
	for s, e := range wrong {
		wordsFail(t, s, 0, e)
		wordsFail(t, s+" 1px", 0, e)
		wordsFail(t, "1px "+s, 1, e)
		wordsFail(t, "1px 2px, "+s, 3, e)
		wordsFail(t, "1px 2px / "+s+" 1px", 3, e)
		wordsFail(t, "1px 2px, 3px "+s, 4, e)
		wordsFail(t, "1px 2px / 3px 4px, 5px "+s, 7, e)
	}
	wordsFail(t, "1px none", 1, api.ErrSyntax)
}

// many tells the text of so many boxes, with what stands between them.
func many(count int, between func(i int) string) string {
	var s strings.Builder
	for i := range count {
		if i > 0 {
			s.WriteString(between(i))
		}
		s.WriteString("1px 2px")
	}
	return s.String()
}

func TestWordsLimit(t *testing.T) { // P9.4
	comma := func(int) string { return ", " }
	slash := func(int) string { return " / " }
	mixed := func(i int) string {
		if i%3 == 0 {
			return " / "
		}
		return ", "
	}
	for _, between := range []func(int) string{comma, slash, mixed} {
		full := many(api.MaxWords, between)
		for l, at := range surroundings(t, full) {
			w, n, e := box.Words(l, at)
			if e != api.OK || n != at+3*api.MaxWords-1 || !box.WordsGood(w) || box.WordsText(w) != full {
				t.Errorf("%.40q: %d, %d", full, n, int(e))
			}
		}
		wordsFail(t, many(api.MaxWords+1, between), 3*api.MaxWords, api.ErrLimit)
		wordsFail(t, many(api.MaxWords+2, between)+" / 2em", 3*api.MaxWords, api.ErrLimit)
		// a box has begun, but is wrong itself
		wordsFail(t, full+", 1px", 3*api.MaxWords, api.ErrLimit)
		wordsFail(t, full+" / 1px 2em", 3*api.MaxWords, api.ErrLimit)
		// none has begun
		wordsFail(t, full+",", 3*api.MaxWords, api.ErrSyntax)
		wordsFail(t, full+" / 2em 1px", 3*api.MaxWords, api.ErrFeature)
		wordsFail(t, many(api.MaxWords-1, between)+", 1px 2em", 3*api.MaxWords-2, api.ErrFeature)
	}
	one, _, _ := box.Words(words(t, many(api.MaxWords, comma)), 0)
	each, _, _ := box.Words(words(t, many(api.MaxWords, slash)), 0)
	if len(one) != 1 || len(each) != api.MaxWords || box.WordsSame(one, each) {
		t.Error(len(one), len(each))
	}
}

func TestWordsGood(t *testing.T) { // P9.4, P9.5
	row := func(count int) []api.Box { return make([]api.Box, count) }
	for _, w := range []content{
		nil, {}, {{unitBox(0, 0)}}, {{unitBox(api.MaxPx, api.MaxPx)}}, {{unitBox(0, api.MaxPx), unitBox(api.MaxPx, 0)}, {unitBox(1, 1)}},
		{row(api.MaxWords)}, {row(1), row(api.MaxWords - 1)}, {row(100), row(100), row(56)}, slices.Repeat(content{row(1)}, api.MaxWords),
	} {
		if !box.WordsGood(w) {
			t.Errorf("%.80v", w)
		}
		text := box.WordsText(w)
		wordsRead(t, text, len(words(t, text))-1, w)
	}
	for _, w := range []content{
		{nil}, {{}}, {{}, {pxBox(1, 1)}}, {{pxBox(1, 1)}, {}}, {{pxBox(1, 1)}, nil, {pxBox(1, 1)}},
		{row(api.MaxWords + 1)}, {row(1), row(api.MaxWords)}, {row(api.MaxWords), row(1)}, {row(100), row(100), row(57)}, slices.Repeat(content{row(1)}, api.MaxWords+1), {row(1 << 16)},
	} {
		if box.WordsGood(w) || box.WordsText(w) != "" {
			t.Errorf("%.80v: %.80q", w, box.WordsText(w))
		}
	}
	for _, n := range []int{-1, math.MinInt, api.MaxPx + 1, math.MaxInt, -api.MaxPx} {
		for _, wrong := range []api.Box{unitBox(n, 1), unitBox(1, n), unitBox(n, n)} {
			for _, w := range []content{{{wrong}}, {{wrong, pxBox(1, 1)}}, {{pxBox(1, 1), wrong}}, {{pxBox(1, 1)}, {wrong}}, {{wrong}, {pxBox(1, 1)}}} {
				if box.WordsGood(w) || box.WordsText(w) != "" {
					t.Errorf("%v: %q", w, box.WordsText(w))
				}
			}
		}
	}
}

func TestWordsText(t *testing.T) { // P9.4
	for text, w := range map[string]content{
		"none":                        {},
		"0px 0px":                     {{unitBox(0, 0)}},
		"1px 2px":                     {{pxBox(1, 2)}},
		"1px 2px, 3px 4px":            {{pxBox(1, 2), pxBox(3, 4)}},
		"1px 2px / 3px 4px":           {{pxBox(1, 2)}, {pxBox(3, 4)}},
		"10px 5px, 3px 3px / 0px 2px": {{pxBox(10, 5), pxBox(3, 3)}, {pxBox(0, 2)}},
		"0.015625px 1073741824px / 1.5px 2px, 3px 4px / 5px 6px": {{unitBox(1, api.MaxPx)}, {unitBox(96, 128), pxBox(3, 4)}, {pxBox(5, 6)}},
	} {
		if got := box.WordsText(w); got != text {
			t.Errorf("%v: %q, not %q", w, got, text)
		}
	}
	if got := box.WordsText(nil); got != "none" {
		t.Errorf("%q", got)
	}
}

func TestWordsSame(t *testing.T) { // P9.4
	a, b := pxBox(1, 2), pxBox(2, 1)
	unlike := []content{
		nil, {{}}, {{}, {}}, {{a}}, {{b}}, {{a}, {}}, {{}, {a}}, {{a, a}}, {{a}, {a}}, {{a, b}}, {{b, a}}, {{a}, {b}}, {{b}, {a}}, {{a, b}, {a}}, {{a}, {b, a}}, {{a, b, a}}, {{a}, {b}, {a}},
		{{unitBox(-1, 0)}}, {{unitBox(0, -1)}}, {{unitBox(0, 0)}}, {{unitBox(math.MaxInt, math.MinInt)}},
	}
	for i, x := range unlike {
		for j, y := range unlike {
			if box.WordsSame(x, y) != (i == j) {
				t.Errorf("%v, %v: %v", x, y, box.WordsSame(x, y))
			}
		}
		copied := make(content, len(x), len(x)+3)
		for i := range x {
			copied[i] = append(make([]api.Box, 0, 9), x[i]...)
		}
		if !box.WordsSame(x, copied) || !box.WordsSame(copied, x) {
			t.Errorf("%v is not its copy", x)
		}
	}
	if !box.WordsSame(nil, content{}) || !box.WordsSame(content{nil}, content{{}}) {
		t.Error("lists without an element")
	}
}

func TestWordsBack(t *testing.T) { // P9.5: all ways to part five boxes into words
	boxes := []api.Box{pxBox(1, 2), unitBox(0, 1), unitBox(api.MaxPx, 63), pxBox(7, 0), unitBox(65, 64)}
	for parts := range 1 << (len(boxes) - 1) {
		w := content{{boxes[0]}}
		for i, b := range boxes[1:] {
			if parts>>i&1 == 1 {
				w = append(w, nil)
			}
			w[len(w)-1] = append(w[len(w)-1], b)
		}
		wordsRead(t, box.WordsText(w), 3*len(boxes)-1, w)
	}
}
