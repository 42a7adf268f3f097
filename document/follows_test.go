package document_test

import (
	"math/rand/v2"
	"slices"
	"strings"
	"testing"

	"parterre/api"
	"parterre/document"
	"parterre/style"
	"parterre/token"
)

func oneOf[T any](r *rand.Rand, list ...T) T { return list[r.IntN(len(list))] }

// someProperty tells a property or a shorthand with a text that may be.
func someProperty(r *rand.Rand) (name, text string) {
	x := oneOf(r, "width 1px", "height 5%", "min-width min-content", "max-height 7.25px", "order -3", "margin 1px auto -2%", "margin-left 3px", "gap 1px 2%", "row-gap 0",
		"grid-area a / span 2 b", "grid-row \\31 x", "grid-column -1 / 2 c", "grid-template-columns repeat(auto-fill, [x] 10px)", "grid-template-rows [a b] 1fr minmax(1px, 2fr)",
		"grid-template 'a a' 1px 'b .' / 1fr 2fr", "grid-template-areas 'ü'", "grid-auto-rows 1px fit-content(2%)", "grid-auto-columns auto", "grid-auto-flow dense column",
		"justify-content space-between", "place-items start end", "align-self stretch", "place-self auto", "width auto", "grid-template none")
	name, text, _ = strings.Cut(x, " ")
	return name, text
}

// someNodes tells a document's nodes.
func someNodes(t *testing.T, r *rand.Rand) []api.Node {
	t.Helper()
	var l []api.Node
	open := []int{-1}
	for range 1 + r.IntN(12) {
		var said []string
		for range r.IntN(4) {
			name, text := someProperty(r)
			said = append(said, name, text)
		}
		parent := open[len(open)-1]
		if parent >= 0 && r.IntN(2) == 0 {
			if r.IntN(2) == 0 {
				said = append(said, "content", oneOf(r, "none", "1px 2px", "0 1px, 2px 3px / 4px 5px"))
			}
			l = append(l, leaf(parent, with(t, said...)))
		} else {
			open = append(open, len(l))
			l = append(l, grid(parent, with(t, said...)))
		}
		open = open[:max(2, len(open)-r.IntN(3))]
	}
	return l
}

func TestBack(t *testing.T) { // P12.4
	r := rand.New(rand.NewPCG(12, 4))
	for range 1000 {
		l := someNodes(t, r)
		text := document.Print(l)
		if !document.Good(l) || text == "" {
			t.Fatalf("not good: %+v", l)
		}
		again, n, e := document.Parse([]byte(text))
		if e != api.OK || n != 0 || !document.Same(l, again) {
			t.Fatalf("%s: %d, %d", text, n, int(e))
		}
	}
}

func TestBackAtLimits(t *testing.T) { // P12.4
	long := strings.Repeat("x", api.MaxName)
	deep := strings.Repeat("grid{width:1px;", api.MaxDepth-1) + "leaf{content:1px 1px;}" + strings.Repeat("}", api.MaxDepth-1)
	for _, s := range []string{
		"grid{" + strings.Repeat("leaf{order:1;}", api.MaxNodes-1) + "}",
		deep,
		"grid{" + strings.Repeat("grid{leaf{}}", api.MaxNodes/2-1) + "leaf{}}",
		"leaf { grid-area: " + long + "; content: 0 0" + strings.Repeat(", 1px 1px", api.MaxWords-1) + "; order: 1048576; width: 1073741824px; }",
		"grid { grid-template-rows: " + strings.Repeat("1px ", api.MaxPieces) + "; grid-auto-columns: " + strings.Repeat("1fr ", api.MaxPieces) + "; }",
		"grid { grid-template-areas: " + strings.Repeat("'"+strings.Repeat("a ", api.MaxAreas)+"'", api.MaxAreas) + "; }",
	} {
		l := parsed(t, s)
		text := document.Print(l)
		if len(text) > api.MaxBytes || !document.Same(l, parsed(t, text)) {
			t.Errorf("%.80s: %d bytes", s, len(text))
		}
	}
	// Beyond token's limits there is a text all the same.
	l := grids(append([]int{-1}, make([]int, api.MaxNodes-1)...)...)
	for i := range l {
		l[i].Style = with(t, "grid-area", long)
	}
	if text := document.Print(l); len(text) <= api.MaxBytes || strings.Count(text, long) != 4*api.MaxNodes {
		t.Error(len(text))
	}
}

// changed tells a text in which one word, or one byte, is another one, is there twice, or is gone.
func changed(r *rand.Rand, text string) string {
	words, _, e := token.Tokens([]byte(text))
	if e != api.OK || r.IntN(8) == 0 {
		at := r.IntN(len(text) + 1)
		return text[:at] + string(byte(r.IntN(256))) + text[min(at+r.IntN(2), len(text)):]
	}
	i := r.IntN(len(words) - 1)
	from, to := words[i].At, words[i+1].At
	word := oneOf(r, "", text[from:to]+text[from:to], "grid", "leaf{", "}", ";", ":", "{", " x ", "width:", "content:", "1px", " 2em ", "color:", "'a'", "repeat(", "/", "display:")
	return text[:from] + word + text[to:]
}

func TestOneAndWithin(t *testing.T) { // P12.5, P12.6
	r := rand.New(rand.NewPCG(12, 5))
	met := map[api.Errno]int{}
	for range 4000 {
		text := document.Print(someNodes(t, r))
		for range 1 + r.IntN(3) {
			text = changed(r, text)
		}
		l, at, e := document.Parse([]byte(text))
		met[e]++
		if e != api.OK {
			if len(l) != 0 || at < 0 || at > len(text) {
				t.Fatalf("%q: %d, %d", text, at, int(e))
			}
			continue
		}
		printed := document.Print(l)
		if at != 0 || !document.Good(l) || printed == "" {
			t.Fatalf("%q: %d, %+v", text, at, l)
		}
		if again := parsed(t, printed); !document.Same(again, l) || document.Print(again) != printed {
			t.Fatalf("%q: %q", text, printed)
		}
	}
	for _, e := range []api.Errno{api.OK, api.ErrToken, api.ErrSyntax, api.ErrFeature, api.ErrName, api.ErrTree} {
		if met[e] < 20 {
			t.Errorf("%d is met %d times", int(e), met[e])
		}
	}
}

func TestWithinSoup(t *testing.T) { // P12.6: words and bytes of any kind
	r := rand.New(rand.NewPCG(12, 6))
	names := append(style.Names(), "grid", "leaf", "gap", "margin", "display", "color")
	rest := []string{"{", "{", "{", "}", ":", ":", ":", ";", ";", "1px", "2px", "auto", "none", "a", "/", "[", "]", "'a b'", "repeat(", ",", ")", "5", "#"}
	for range 30000 {
		text := oneOf(r, "", "grid{", "leaf {", "grid{grid{")
		for range r.IntN(12) {
			text += oneOf(r, oneOf(r, names...), oneOf(r, rest...)) + oneOf(r, "", " ")
		}
		l, at, e := document.Parse([]byte(text))
		if e == api.OK && (at != 0 || !document.Good(l)) || e != api.OK && (len(l) != 0 || at < 0 || at > len(text)) {
			t.Fatalf("%q: %d, %d, %+v", text, at, int(e), l)
		}
		words, place, wrong := token.Tokens([]byte(text))
		isWord := slices.ContainsFunc(words, func(w api.Token) bool { return w.At == at })
		if wrong != api.OK && (e != wrong || at != place) || wrong == api.OK && e != api.OK && !isWord {
			t.Fatalf("%q: %d, %d; token tells %d, %d", text, at, int(e), place, int(wrong))
		}
	}
}
