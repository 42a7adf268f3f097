package line_test

import (
	"math"
	"slices"
	"strings"
	"testing"

	"parterre/api"
	"parterre/line"
	"parterre/token"
)

func auto() api.Line { return api.Line{Kind: api.LineAuto} }

func num(n int, name string) api.Line { return api.Line{Kind: api.LineNum, N: n, Name: name} }

func named(name string) api.Line { return api.Line{Kind: api.LineName, Name: name} }

func span(n int, name string) api.Line { return api.Line{Kind: api.LineSpan, N: n, Name: name} }

// words tells the words of a text.
func words(t *testing.T, s string) []api.Token {
	t.Helper()
	l, _, e := token.Tokens([]byte(s))
	if e != api.OK {
		t.Fatalf("%.60q: %d", s, int(e))
	}
	return l
}

// surroundings yields the words of a text as they may be handed in: alone, without an end, with other words ahead; and the place where they begin.
func surroundings(t *testing.T, s string) func(yield func([]api.Token, int) bool) {
	t.Helper()
	l := words(t, s)
	ahead := words(t, "x 2 span /")[:4]
	return func(yield func([]api.Token, int) bool) {
		_ = yield(l, 0) && yield(l[:len(l)-1], 0) && yield(append(ahead, l...), 4)
	}
}

// reads asks whether Read tells this line of a text, and so many words.
func reads(t *testing.T, s string, next int, want api.Line) {
	t.Helper()
	for l, at := range surroundings(t, s) {
		if v, n, e := line.Read(l, at); v != want || n != at+next || e != api.OK || !line.Good(v) {
			t.Errorf("%.80q at %d: %v, %d, %d; not %v, %d", s, at, v, n, int(e), want, at+next)
		}
	}
}

// fails asks whether Read tells that error of a text, at that word; and Pair and Four, wherever the line stands in them.
func fails(t *testing.T, s string, place int, want api.Errno) {
	t.Helper()
	for l, at := range surroundings(t, s) {
		if v, n, e := line.Read(l, at); v != (api.Line{}) || n != at+place || e != want {
			t.Errorf("%.80q at %d: %v, %d, %d; not %d, %d", s, at, v, n, int(e), at+place, int(want))
		}
	}
	for ahead := range 4 {
		text := strings.Repeat("a / ", ahead) + s
		for l, at := range surroundings(t, text) {
			if four, n, e := line.Four(l, at); four != ([4]api.Line{}) || n != at+2*ahead+place || e != want {
				t.Errorf("Four of %.80q at %d: %v, %d, %d", text, at, four, n, int(e))
			}
			if a, b, n, e := line.Pair(l, at); ahead < 2 && (a != (api.Line{}) || b != (api.Line{}) || n != at+2*ahead+place || e != want) {
				t.Errorf("Pair of %.80q at %d: %v, %v, %d, %d", text, at, a, b, n, int(e))
			}
		}
	}
}

// goodLines are lines that may be, with their texts.
func goodLines() map[api.Line]string {
	long := strings.Repeat("x", api.MaxName)
	return map[api.Line]string{
		auto():     "auto",
		num(1, ""): "1", num(-1, ""): "-1", num(api.MaxLine, ""): "10000", num(-api.MaxLine, ""): "-10000", num(42, ""): "42",
		num(1, "a"): "1 a", num(-1, "a"): "-1 a", num(api.MaxLine, "a"): "10000 a", num(-api.MaxLine, long): "-10000 " + long,
		num(2, "e3"): "2 e3", num(2, "px"): "2 px", num(2, "1a"): `2 \31 a`, num(-2, "-"): `-2 \-`, num(2, "--"): "2 --", num(2, "%"): `2 \%`,
		named("a"): "a", named("A"): "A", named(long): long, named("1"): `\31 `, named("-1"): `-\31 `, named("a b"): `a\ b`, named("/"): `\/`, named("none"): "none",
		named("spans"): "spans", named("span "): `span\ `, named("-span"): "-span", named("autos"): "autos", named("\x01"): `\1 `, named("ä"): "ä", named("\xff"): "\xff", named("a/*b"): `a\/\*b`,
		span(1, ""): "span 1", span(2, ""): "span 2", span(api.MaxLine, ""): "span 10000",
		span(1, "a"): "span a", span(2, "a"): "span 2 a", span(api.MaxLine, long): "span 10000 " + long, span(1, "1"): `span \31 `, span(3, "2"): `span 3 \32 `,
	}
}

// wrongNames are names that a line may not have.
func wrongNames() []string {
	return []string{
		"span", "SPAN", "Span", "auto", "Auto", "initial", "inherit", "INHERIT", "unset", "default", "revert",
		"\x00", "a\x00", strings.Repeat("x", api.MaxName+1), strings.Repeat("x", 1000),
	}
}

// wrongLines are lines that no words could make.
func wrongLines() []api.Line {
	l := []api.Line{
		{}, {N: 1}, {Name: "a"}, {N: 1, Name: "a"}, {Kind: 5}, {Kind: 5, N: 1}, {Kind: -1, N: 1, Name: "a"}, {Kind: math.MaxInt, N: 1}, {Kind: math.MinInt},
		{Kind: api.LineAuto, N: 1}, {Kind: api.LineAuto, N: -1}, {Kind: api.LineAuto, Name: "a"}, {Kind: api.LineAuto, N: 2, Name: "a"}, {Kind: api.LineAuto, Name: "auto"}, {Kind: api.LineAuto, N: math.MinInt},
		num(0, ""), num(0, "a"), span(0, ""), span(0, "a"), span(-1, ""), span(-1, "a"), span(-api.MaxLine, ""),
		named(""), {Kind: api.LineName, N: 1, Name: "a"}, {Kind: api.LineName, N: -1, Name: "a"}, {Kind: api.LineName, N: math.MaxInt, Name: "a"}, {Kind: api.LineName, N: 1},
	}
	for _, n := range []int{api.MaxLine + 1, -api.MaxLine - 1, math.MaxInt, math.MinInt} {
		l = append(l, num(n, ""), num(n, "a"), span(n, ""), span(n, "a"))
	}
	for _, name := range wrongNames() {
		l = append(l, num(1, name), named(name), span(1, name), span(2, name))
	}
	return l
}

func TestExample(t *testing.T) {
	for _, s := range []string{"span 2 a", "a 2 span", "span a 2"} {
		reads(t, s, 3, span(2, "a"))
	}
	reads(t, "a", 1, named("a"))
	if a, b, n, e := line.Pair(words(t, "a"), 0); a != named("a") || b != named("a") || n != 1 || e != api.OK {
		t.Error(a, b, n, int(e))
	}
	fails(t, "0", 0, api.ErrSyntax)
}

func TestGood(t *testing.T) { // P7.1, P7.4, P7.5
	for v, text := range goodLines() {
		if !line.Good(v) || line.Text(v) != text {
			t.Errorf("%v: %v, %q, not %q", v, line.Good(v), line.Text(v), text)
		}
		reads(t, text, len(words(t, text))-1, v)
		reads(t, text+" /", len(words(t, text))-1, v)
	}
	for _, v := range wrongLines() {
		if line.Good(v) || line.Text(v) != "" {
			t.Errorf("%v: %v, %q", v, line.Good(v), line.Text(v))
		}
	}
}

func TestNumbers(t *testing.T) { // P7.1, P7.4, P7.5
	for n := -api.MaxLine - 2; n <= api.MaxLine+2; n++ {
		within := -api.MaxLine <= n && n <= api.MaxLine
		for _, name := range []string{"", "a"} {
			if line.Good(num(n, name)) != (within && n != 0) || line.Good(span(n, name)) != (within && n > 0) || line.Good(api.Line{Kind: api.LineName, N: n, Name: name}) != (n == 0 && name != "") {
				t.Errorf("%d and %q", n, name)
			}
			for _, v := range []api.Line{num(n, name), span(n, name)} {
				if r, _, e := line.Read(words(t, line.Text(v)), 0); line.Good(v) && (r != v || e != api.OK) {
					t.Errorf("%v: %q", v, line.Text(v))
				}
			}
		}
	}
}

func TestRead(t *testing.T) { // P7.2
	for s, want := range map[string]api.Line{
		"auto": auto(), "AUTO": auto(), `\61uto`: auto(),
		"1": num(1, ""), "+1": num(1, ""), "-1": num(-1, ""), "007": num(7, ""), "10000": num(api.MaxLine, ""), "-10000": num(-api.MaxLine, ""), "+10000": num(api.MaxLine, ""), strings.Repeat("0", 299) + "1": num(1, ""),
		"a": named("a"), "A": named("A"), "none": named("none"), `\31`: named("1"), `sp\an`: named("sp\nn"), "dense": named("dense"), strings.Repeat("x", api.MaxName): named(strings.Repeat("x", api.MaxName)),
		"1 a": num(1, "a"), "a 1": num(1, "a"), "-10000 a": num(-api.MaxLine, "a"), "a -10000": num(-api.MaxLine, "a"), "a/**/1": num(1, "a"), "1/**/a": num(1, "a"),
		"span 1": span(1, ""), "1 span": span(1, ""), "span 10000": span(api.MaxLine, ""), "10000 span": span(api.MaxLine, ""), "SPAN 3": span(3, ""), "3 SpAn": span(3, ""), `\73pan 3`: span(3, ""), "span +2": span(2, ""),
		"span a": span(1, "a"), "a span": span(1, "a"), "a SPAN": span(1, "a"), "span none": span(1, "none"),
		"span 2 a": span(2, "a"), "span a 2": span(2, "a"), "2 a span": span(2, "a"), "a 2 span": span(2, "a"), "span 1 a": span(1, "a"), "a 10000 span": span(api.MaxLine, "a"),
	} {
		reads(t, s, len(words(t, s))-1, want)
	}
}

func TestEnds(t *testing.T) { // P7.2: the word at which a line ends
	for _, x := range []struct {
		s    string
		next int
		want api.Line
	}{
		{"auto auto", 1, auto()}, {"auto 1", 1, auto()}, {"auto a", 1, auto()}, {"auto span", 1, auto()}, {"auto 0", 1, auto()}, {"auto 10001", 1, auto()}, {"auto inherit", 1, auto()},
		{"1 2", 1, num(1, "")}, {"1 0", 1, num(1, "")}, {"1 10001", 1, num(1, "")}, {"1 1e99", 1, num(1, "")}, {"1 99999999999999999999", 1, num(1, "")}, {"1 a 2", 2, num(1, "a")}, {"a 1 0", 2, num(1, "a")}, {"a 1 -10001", 2, num(1, "a")},
		{"a b", 1, named("a")}, {"a a", 1, named("a")}, {"a 1 b", 2, num(1, "a")}, {"1 a b", 2, num(1, "a")}, {"a b 1", 1, named("a")}, {"a b span", 1, named("a")}, {"1 2 span", 1, num(1, "")},
		{"span 2 3", 2, span(2, "")}, {"span 2 0", 2, span(2, "")}, {"span a b", 2, span(1, "a")}, {"span 2 a 3", 3, span(2, "a")}, {"span 2 a b", 3, span(2, "a")}, {"span a 2 b", 3, span(2, "a")}, {"span a 2 0", 3, span(2, "a")},
		// span in the middle: it is the last word of its line
		{"a span 2", 2, span(1, "a")}, {"2 span a", 2, span(2, "")}, {"a span 0", 2, span(1, "a")}, {"a span b", 2, span(1, "a")}, {"2 span 3", 2, span(2, "")}, {"a span 10001", 2, span(1, "a")}, {"a 2 span b", 3, span(2, "a")}, {"2 a span 3", 3, span(2, "a")},
		// span twice
		{"a span span", 2, span(1, "a")}, {"span a span", 2, span(1, "a")}, {"span 2 span", 2, span(2, "")}, {"span 2 a span", 3, span(2, "a")}, {"2 span span", 2, span(2, "")}, {"a 2 span span", 3, span(2, "a")},
		// identifiers that are no names
		{"a auto", 1, named("a")}, {"a default", 1, named("a")}, {"1 inherit", 1, num(1, "")}, {"1 a revert", 2, num(1, "a")}, {"span 1 unset", 2, span(1, "")}, {"span a initial", 2, span(1, "a")}, {"a 1 AUTO", 2, num(1, "a")}, {"1 auto a", 1, num(1, "")}, {"a default span", 1, named("a")},
		// words that are none of a line's
		{"a 1.5", 1, named("a")}, {"a 1e1", 1, named("a")}, {"a 1px", 1, named("a")}, {"a 1%", 1, named("a")}, {"1 'a'", 1, num(1, "")}, {"1 a(", 1, num(1, "")}, {"a span(", 1, named("a")}, {"1 /", 1, num(1, "")}, {"a , 1", 1, named("a")}, {"span a /", 2, span(1, "a")}, {"span 2 ;", 2, span(2, "")}, {"span a 1.0", 2, span(1, "a")}, {"a " + strings.Repeat("0", 300) + "1", 1, named("a")},
	} {
		reads(t, x.s, x.next, x.want)
	}
	tooLong := []api.Token{{Kind: api.TokNum, Num: "1"}, {Kind: api.TokIdent, Text: strings.Repeat("x", api.MaxName+1)}}
	if v, n, e := line.Read(tooLong, 0); v != num(1, "") || n != 1 || e != api.OK {
		t.Error("a name that is too long", v, n, int(e))
	}
}

func TestErrors(t *testing.T) { // P7.2, P7.3
	for _, x := range []struct {
		s     string
		place int
		e     api.Errno
	}{
		// the first word
		{"", 0, api.ErrSyntax}, {"/", 0, api.ErrSyntax}, {"/ a", 0, api.ErrSyntax}, {"default", 0, api.ErrSyntax}, {"Default 1", 0, api.ErrSyntax}, {"1.5", 0, api.ErrSyntax}, {"1.0", 0, api.ErrSyntax}, {"1e1", 0, api.ErrSyntax}, {"1e99", 0, api.ErrSyntax}, {"1px", 0, api.ErrSyntax}, {"1%", 0, api.ErrSyntax}, {"'a'", 0, api.ErrSyntax}, {"a(", 0, api.ErrSyntax}, {"span(", 0, api.ErrSyntax}, {"auto(", 0, api.ErrSyntax}, {"inherit(", 0, api.ErrSyntax}, {"'inherit'", 0, api.ErrSyntax}, {"[a]", 0, api.ErrSyntax}, {"1.5 span", 0, api.ErrSyntax}, {strings.Repeat("0", 300) + "1", 0, api.ErrSyntax}, {"2em", 0, api.ErrSyntax}, {"calc(", 0, api.ErrSyntax},
		{"inherit", 0, api.ErrFeature}, {"initial", 0, api.ErrFeature}, {"unset", 0, api.ErrFeature}, {"revert", 0, api.ErrFeature}, {"INHERIT", 0, api.ErrFeature}, {"Unset 0", 0, api.ErrFeature}, {"revert 10001", 0, api.ErrFeature}, {`\69nherit`, 0, api.ErrFeature},
		// span alone
		{"span", 1, api.ErrSyntax}, {"SPAN", 1, api.ErrSyntax}, {"span span", 1, api.ErrSyntax}, {"span span 2", 1, api.ErrSyntax}, {"span auto", 1, api.ErrSyntax}, {"span inherit", 1, api.ErrSyntax}, {"span default a", 1, api.ErrSyntax}, {"span /", 1, api.ErrSyntax}, {"span / 1", 1, api.ErrSyntax}, {"span 1.5", 1, api.ErrSyntax}, {"span 1e99", 1, api.ErrSyntax}, {"span 'a'", 1, api.ErrSyntax}, {"span 1px", 1, api.ErrSyntax}, {"span a(", 1, api.ErrSyntax},
		// numbers that may not be
		{"0", 0, api.ErrSyntax}, {"-0", 0, api.ErrSyntax}, {"+00", 0, api.ErrSyntax}, {"0 a", 0, api.ErrSyntax}, {"a 0", 1, api.ErrSyntax}, {"0 span", 0, api.ErrSyntax}, {"0 a span", 0, api.ErrSyntax}, {"a 0 span", 1, api.ErrSyntax}, {"span 0", 1, api.ErrSyntax}, {"span 0 a", 1, api.ErrSyntax}, {"span a 0", 2, api.ErrSyntax}, {"0 10001", 0, api.ErrSyntax}, {"0 inherit", 0, api.ErrSyntax}, {strings.Repeat("0", 300), 0, api.ErrSyntax},
		{"span -1", 1, api.ErrSyntax}, {"-1 span", 0, api.ErrSyntax}, {"-1 a span", 0, api.ErrSyntax}, {"a -1 span", 1, api.ErrSyntax}, {"span -1 a", 1, api.ErrSyntax}, {"span a -1", 2, api.ErrSyntax}, {"span -10000", 1, api.ErrSyntax}, {"-10000 span", 0, api.ErrSyntax}, {"-1 span 2", 0, api.ErrSyntax}, {"span -1 10001", 1, api.ErrSyntax},
		// numbers beyond the limit, which goes ahead of their being below 1
		{"10001", 0, api.ErrLimit}, {"-10001", 0, api.ErrLimit}, {"a 10001", 1, api.ErrLimit}, {"a -10001", 1, api.ErrLimit}, {"10001 a", 0, api.ErrLimit}, {"span 10001", 1, api.ErrLimit}, {"span -10001", 1, api.ErrLimit}, {"span a -10001", 2, api.ErrLimit}, {"-10001 span", 0, api.ErrLimit}, {"a -10001 span", 1, api.ErrLimit}, {"10001 0", 0, api.ErrLimit}, {"10001 inherit", 0, api.ErrLimit},
		{"68719476736", 0, api.ErrLimit}, {"68719476737", 0, api.ErrLimit}, {"-68719476737", 0, api.ErrLimit}, {"99999999999999999999999", 0, api.ErrLimit}, {"a 99999999999999999999999", 1, api.ErrLimit}, {"span -99999999999999999999999", 1, api.ErrLimit}, {"a -99999999999999999999999 span", 1, api.ErrLimit}, {strings.Repeat("9", 300), 0, api.ErrLimit},
	} {
		fails(t, x.s, x.place, x.e)
	}
}

// noPlaces are places that n words don't have.
func noPlaces(n int) []int { return []int{math.MinInt, -2, -1, n, n + 1, math.MaxInt - 1, math.MaxInt} }

func TestPlaces(t *testing.T) { // P7.2, P7.3: a place that is none counts as that of an end
	ended := words(t, "a / 1 / span")
	for _, l := range [][]api.Token{nil, {}, ended, ended[:5], ended[:1]} {
		for _, at := range noPlaces(len(l)) {
			if v, n, e := line.Read(l, at); v != (api.Line{}) || n != at || e != api.ErrSyntax {
				t.Errorf("Read at %d of %d: %v, %d, %d", at, len(l), v, n, int(e))
			}
			if a, b, n, e := line.Pair(l, at); a != (api.Line{}) || b != (api.Line{}) || n != at || e != api.ErrSyntax {
				t.Errorf("Pair at %d of %d: %v, %v, %d, %d", at, len(l), a, b, n, int(e))
			}
			if four, n, e := line.Four(l, at); four != ([4]api.Line{}) || n != at || e != api.ErrSyntax {
				t.Errorf("Four at %d of %d: %v, %d, %d", at, len(l), four, n, int(e))
			}
		}
	}
}

func TestForeignWords(t *testing.T) { // P7.2: words that no bytes make
	for _, word := range []api.Token{
		{}, {Kind: 9, Text: "a"}, {Kind: -1, Text: "span"}, {Kind: math.MinInt, Num: "1"}, {Kind: api.TokEnd, Text: "a", Num: "1"}, {Kind: api.TokSign, Text: "a"}, {Kind: api.TokString, Text: "span"}, {Kind: api.TokFunc, Text: "auto"},
		{Kind: api.TokIdent}, {Kind: api.TokIdent, Num: "1"}, {Kind: api.TokIdent, Text: "a\x00"}, {Kind: api.TokIdent, Text: strings.Repeat("x", api.MaxName+1)},
		{Kind: api.TokNum}, {Kind: api.TokNum, Num: "a"}, {Kind: api.TokNum, Num: "--1"}, {Kind: api.TokNum, Num: "1 "}, {Kind: api.TokDim, Num: "1", Text: "a"}, {Kind: api.TokPct, Num: "1"},
	} {
		if v, n, e := line.Read([]api.Token{word}, 0); v != (api.Line{}) || n != 0 || e != api.ErrSyntax {
			t.Errorf("%v: %v, %d, %d", word, v, n, int(e))
		}
		if v, n, e := line.Read([]api.Token{{Kind: api.TokIdent, Text: "a"}, word}, 0); v != named("a") || n != 1 || e != api.OK {
			t.Errorf("a and %v: %v, %d, %d", word, v, n, int(e))
		}
	}
}

// expected tells what Read should tell of words that are written one by one: the longest beginning that has one of the shapes of a line.
func expected(l []string) (api.Line, int, api.Errno) {
	numbers := map[string]int{"0": 0, "2": 2, "-3": -3, "10001": 10001, "-10001": -10001}
	shape := ""
	for _, s := range l {
		switch _, isNumber := numbers[s]; {
		case isNumber:
			shape += "n"
		case s == "span":
			shape += "s"
		case s == "a" || s == "b":
			shape += "a"
		default:
			shape += "."
		}
	}
	switch {
	case l[0] == "auto":
		return auto(), 1, api.OK
	case l[0] == "unset":
		return api.Line{}, 0, api.ErrFeature
	}
	longest := ""
	for _, x := range []string{"n", "a", "na", "an", "sn", "ns", "sa", "as", "sna", "san", "nas", "ans"} {
		if strings.HasPrefix(shape, x) && len(x) > len(longest) {
			longest = x
		}
	}
	if longest == "" {
		return api.Line{}, strings.Count(shape[:1], "s"), api.ErrSyntax
	}
	v, least := api.Line{Kind: api.LineName}, -api.MaxLine
	if name := strings.Index(longest, "a"); name >= 0 {
		v.Name = l[name]
	}
	at := strings.Index(longest, "n")
	switch {
	case strings.Contains(longest, "s"):
		v.Kind, v.N, least = api.LineSpan, 1, 1
	case at >= 0:
		v.Kind = api.LineNum
	}
	if at >= 0 {
		v.N = numbers[l[at]]
		switch {
		case v.N > api.MaxLine || v.N < -api.MaxLine:
			return api.Line{}, at, api.ErrLimit
		case v.N == 0 || v.N < least:
			return api.Line{}, at, api.ErrSyntax
		}
	}
	return v, len(longest), api.OK
}

func TestAllOrders(t *testing.T) { // P7.2
	some := []string{"2", "-3", "0", "10001", "-10001", "a", "b", "span", "auto", "unset", "default", "/", "1.5"}
	var try func(l []string)
	try = func(l []string) {
		if len(l) > 0 {
			v, n, e := line.Read(words(t, strings.Join(l, " ")), 0)
			if w, m, f := expected(l); v != w || n != m || e != f {
				t.Errorf("%v: %v, %d, %d; not %v, %d, %d", l, v, n, int(e), w, m, int(f))
			}
		}
		if len(l) == 4 {
			return
		}
		for _, s := range some {
			try(append(slices.Clone(l), s))
		}
	}
	try(nil)
}

func TestPair(t *testing.T) { // P7.3
	for _, x := range []struct {
		s          string
		start, end api.Line
		next       int
	}{
		{"a", named("a"), named("a"), 1}, {"1", num(1, ""), auto(), 1}, {"1 a", num(1, "a"), auto(), 2}, {"span a", span(1, "a"), auto(), 2}, {"auto", auto(), auto(), 1}, {"auto a", auto(), auto(), 1}, {"a b", named("a"), named("a"), 1}, {"a , b", named("a"), named("a"), 1},
		{"a / b", named("a"), named("b"), 3}, {"a / a", named("a"), named("a"), 3}, {"a / auto", named("a"), auto(), 3}, {"1 / a", num(1, ""), named("a"), 3}, {"2 / span 3", num(2, ""), span(3, ""), 4}, {"span 2 a / -1 b", span(2, "a"), num(-1, "b"), 6}, {"a 2 span / 3", span(2, "a"), num(3, ""), 5}, {"auto / auto", auto(), auto(), 3}, {"1/2", num(1, ""), num(2, ""), 3}, {"a/**// b", named("a"), named("b"), 3},
		{"1 / 2 / 3", num(1, ""), num(2, ""), 3}, {"1 / 2 /", num(1, ""), num(2, ""), 3}, {"a / b c", named("a"), named("b"), 3}, {"1 / 2 ;", num(1, ""), num(2, ""), 3}, {"a span 2 / b", span(1, "a"), auto(), 2},
	} {
		for l, at := range surroundings(t, x.s) {
			if a, b, n, e := line.Pair(l, at); a != x.start || b != x.end || n != at+x.next || e != api.OK {
				t.Errorf("%s at %d: %v, %v, %d, %d", x.s, at, a, b, n, int(e))
			}
		}
	}
	for _, x := range []struct {
		s     string
		place int
		e     api.Errno
	}{
		{"1 /", 2, api.ErrSyntax}, {"a / /", 2, api.ErrSyntax}, {"span a / span", 4, api.ErrSyntax}, {"1 / inherit", 2, api.ErrFeature}, {"inherit / 0", 0, api.ErrFeature}, {"0 / 10001", 0, api.ErrSyntax}, {"a / 10001", 2, api.ErrLimit}, {"a 1 / a 0", 4, api.ErrSyntax}, {"/ a", 0, api.ErrSyntax}, {"1 / default", 2, api.ErrSyntax},
	} {
		for l, at := range surroundings(t, x.s) {
			if a, b, n, e := line.Pair(l, at); a != (api.Line{}) || b != (api.Line{}) || n != at+x.place || e != x.e {
				t.Errorf("%s at %d: %v, %v, %d, %d", x.s, at, a, b, n, int(e))
			}
		}
	}
}

func TestFour(t *testing.T) { // P7.3
	a, b, c, d := named("a"), named("b"), named("c"), named("d")
	one, two, three, four := num(1, ""), num(2, ""), num(3, ""), num(4, "")
	for _, x := range []struct {
		s    string
		want [4]api.Line
		next int
	}{
		{"a", [4]api.Line{a, a, a, a}, 1}, {"1", [4]api.Line{one, auto(), auto(), auto()}, 1}, {"auto", [4]api.Line{auto(), auto(), auto(), auto()}, 1}, {"span 2 a", [4]api.Line{span(2, "a"), auto(), auto(), auto()}, 3}, {"1 a", [4]api.Line{num(1, "a"), auto(), auto(), auto()}, 2}, {"a b", [4]api.Line{a, a, a, a}, 1},
		{"a / b", [4]api.Line{a, b, a, b}, 3}, {"a / 2", [4]api.Line{a, two, a, auto()}, 3}, {"1 / b", [4]api.Line{one, b, auto(), b}, 3}, {"1 / 2", [4]api.Line{one, two, auto(), auto()}, 3}, {"a / auto", [4]api.Line{a, auto(), a, auto()}, 3}, {"span a / b", [4]api.Line{span(1, "a"), b, auto(), b}, 4},
		{"a / b / c", [4]api.Line{a, b, c, b}, 5}, {"a / 2 / c", [4]api.Line{a, two, c, auto()}, 5}, {"1 / b / 3", [4]api.Line{one, b, three, b}, 5}, {"1 / 2 / 3", [4]api.Line{one, two, three, auto()}, 5}, {"a / b / auto", [4]api.Line{a, b, auto(), b}, 5},
		{"a / b / c / d", [4]api.Line{a, b, c, d}, 7}, {"1 / 2 / 3 / 4", [4]api.Line{one, two, three, four}, 7}, {"a / b / c / auto", [4]api.Line{a, b, c, auto()}, 7}, {"1 a / span 2 / b span / 4", [4]api.Line{num(1, "a"), span(2, ""), span(1, "b"), four}, 10},
		{"a / b / c / d / e", [4]api.Line{a, b, c, d}, 7}, {"a / b / c / d /", [4]api.Line{a, b, c, d}, 7}, {"a / b / c / d / 0", [4]api.Line{a, b, c, d}, 7}, {"a / b / c / d ;", [4]api.Line{a, b, c, d}, 7}, {"a / b ; c", [4]api.Line{a, b, a, b}, 3},
	} {
		for l, at := range surroundings(t, x.s) {
			if v, n, e := line.Four(l, at); v != x.want || n != at+x.next || e != api.OK {
				t.Errorf("%s at %d: %v, %d, %d", x.s, at, v, n, int(e))
			}
		}
	}
	for _, x := range []struct {
		s     string
		place int
		e     api.Errno
	}{
		{"1 /", 2, api.ErrSyntax}, {"1 / 2 /", 4, api.ErrSyntax}, {"1 / 2 / 3 /", 6, api.ErrSyntax}, {"1 / / 2", 2, api.ErrSyntax}, {"1 / 2 / 3 / 0", 6, api.ErrSyntax}, {"1 / 2 / unset", 4, api.ErrFeature}, {"1 / 2 / 3 / a 10001", 7, api.ErrLimit}, {"1 / 0 / 10001", 2, api.ErrSyntax}, {"1 / 10001 / 0", 2, api.ErrLimit}, {"1 / span / 3", 3, api.ErrSyntax},
	} {
		for l, at := range surroundings(t, x.s) {
			if v, n, e := line.Four(l, at); v != ([4]api.Line{}) || n != at+x.place || e != x.e {
				t.Errorf("%s at %d: %v, %d, %d", x.s, at, v, n, int(e))
			}
		}
	}
}

func TestPairText(t *testing.T) { // P7.4, P7.5
	for start, first := range goodLines() {
		for end, second := range goodLines() {
			want := first + " / " + second
			if start.Kind == api.LineName && end == start || start.Kind != api.LineName && end == auto() {
				want = first
			}
			text := line.PairText(start, end)
			if text != want {
				t.Errorf("%v and %v: %q, not %q", start, end, text, want)
			}
			l := words(t, text)
			if a, b, n, e := line.Pair(l, 0); a != start || b != end || n != len(l)-1 || e != api.OK {
				t.Errorf("%q: %v, %v, %d, %d", text, a, b, n, int(e))
			}
		}
		for _, v := range wrongLines() {
			if line.PairText(start, v) != "" || line.PairText(v, start) != "" {
				t.Errorf("%v and %v: %q, %q", start, v, line.PairText(start, v), line.PairText(v, start))
			}
		}
	}
	for _, v := range wrongLines() {
		if line.PairText(v, v) != "" || line.PairText(v, auto()) != "" {
			t.Errorf("%v: %q, %q", v, line.PairText(v, v), line.PairText(v, auto()))
		}
	}
}

func TestNamesBack(t *testing.T) { // P7.5: names of any bytes
	for c := range 256 {
		for _, name := range []string{string([]byte{byte(c)}), string([]byte{'-', byte(c)}), string([]byte{'a', byte(c), '1'}), string([]byte{byte(c), byte(c)})} {
			for _, v := range []api.Line{named(name), num(-3, name), span(1, name), span(2, name)} {
				if !line.Good(v) {
					if c != 0 || line.Text(v) != "" {
						t.Errorf("%v: %q", v, line.Text(v))
					}
					continue
				}
				for _, w := range []api.Line{auto(), v} {
					text := line.PairText(v, w)
					if a, b, _, e := line.Pair(words(t, text), 0); a != v || b != w || e != api.OK {
						t.Errorf("%q: %v, %v, %d", text, a, b, int(e))
					}
				}
			}
		}
	}
}

func TestUnchanged(t *testing.T) { // rules 4 and 8: neither changed, nor read behind its length
	whole := words(t, "span 2 a / b 3 / 4 / auto")
	ahead := slices.Clone(whole)
	if v, n, e := line.Read(whole[:2], 0); v != span(2, "") || n != 2 || e != api.OK {
		t.Error(v, n, int(e))
	}
	if v, n, e := line.Read(whole[:1], 0); v != (api.Line{}) || n != 1 || e != api.ErrSyntax {
		t.Error(v, n, int(e))
	}
	if a, b, n, e := line.Pair(whole[:3], 0); a != span(2, "a") || b != auto() || n != 3 || e != api.OK {
		t.Error(a, b, n, int(e))
	}
	if v, n, e := line.Four(whole[:7], 0); v != ([4]api.Line{}) || n != 7 || e != api.ErrSyntax {
		t.Error(v, n, int(e))
	}
	if !slices.Equal(whole, ahead) {
		t.Error(whole)
	}
}
