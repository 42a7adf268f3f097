package value_test

import (
	"math"
	"slices"
	"strings"
	"testing"

	"parterre/api"
	"parterre/token"
	"parterre/value"
)

const (
	all   = value.Pct | value.Neg | value.Auto | value.Cont | value.Flex | value.None
	never = 1 << 20 // what is needed for a size that may not be, whatever is allowed
)

func px(n int) api.Len { return api.Len{Kind: api.LenPx, N: n} }

func pct(n int) api.Len { return api.Len{Kind: api.LenPct, N: n} }

func fr(n int) api.Len { return api.Len{Kind: api.LenFr, N: n} }

func plain(kind int) api.Len { return api.Len{Kind: kind} }

// words tells the words of a text.
func words(t *testing.T, s string) []api.Token {
	t.Helper()
	l, _, e := token.Tokens([]byte(s))
	if e != api.OK {
		t.Fatalf("%q: %d", s, int(e))
	}
	return l
}

// reads asks for a size behind another word, and with nothing behind it, so that places are told apart.
func reads(t *testing.T, word api.Token, allow int, want api.Len, e api.Errno) {
	t.Helper()
	l := []api.Token{{Kind: api.TokIdent, Text: "auto"}, word}
	next := 1
	if e == api.OK {
		next = 2
	}
	if v, n, f := value.Read(l, 1, allow); v != want || n != next || f != e {
		t.Errorf("%v with %d: %v, %d, %d; not %v, %d, %d", word, allow, v, n, int(f), want, next, int(e))
	}
}

// one tells the only word of a text.
func one(t *testing.T, s string) api.Token {
	t.Helper()
	l := words(t, s)
	if len(l) != 2 {
		t.Fatalf("%q: %v", s, l)
	}
	return l[0]
}

// noPlaces are places that n words don't have.
func noPlaces(n int) []int { return []int{math.MinInt, -2, -1, n, n + 1, math.MaxInt - 1, math.MaxInt} }

func TestExample(t *testing.T) {
	reads(t, one(t, "1.5px"), 0, px(96), api.OK)
	reads(t, one(t, "50%"), value.Pct, pct(50000), api.OK)
	reads(t, one(t, "2em"), 0, api.Len{}, api.ErrFeature)
	reads(t, one(t, "-1px"), 0, api.Len{}, api.ErrSyntax)
	reads(t, one(t, "-1px"), value.Neg, px(-64), api.OK)
}

func TestGood(t *testing.T) { // P5.1
	for v, need := range map[api.Len]int{
		px(0): 0, px(1): 0, px(api.MaxPx): 0, px(-1): value.Neg, px(-api.MaxPx): value.Neg,
		px(api.MaxPx + 1): never, px(-api.MaxPx - 1): never, px(math.MaxInt): never, px(math.MinInt): never,
		pct(0): value.Pct, pct(1): value.Pct, pct(api.MaxMille): value.Pct,
		pct(-1): value.Pct | value.Neg, pct(-api.MaxMille): value.Pct | value.Neg,
		pct(api.MaxMille + 1): never, pct(-api.MaxMille - 1): never, pct(math.MaxInt): never, pct(math.MinInt): never,
		fr(0): value.Flex, fr(1): value.Flex, fr(api.MaxMille): value.Flex,
		fr(-1): never, fr(-api.MaxMille): never, fr(api.MaxMille + 1): never, fr(math.MaxInt): never, fr(math.MinInt): never,
		plain(api.LenAuto): value.Auto, plain(api.LenMin): value.Cont, plain(api.LenMax): value.Cont, plain(api.LenNone): value.None,
		{Kind: api.LenAuto, N: 1}: never, {Kind: api.LenMin, N: 1}: never, {Kind: api.LenMax, N: -1}: never, {Kind: api.LenNone, N: math.MinInt}: never,
		{}: never, {N: 1}: never, plain(8): never, plain(-1): never, plain(math.MaxInt): never, plain(math.MinInt): never,
	} {
		for allow := range all + 1 {
			want := need&^allow == 0
			if value.Good(v, allow) != want || value.Good(v, allow|64) != want || value.Good(v, allow|math.MinInt) != want {
				t.Errorf("%v with %d: not %v", v, allow, want)
			}
		}
		if value.Good(v, -1) != (need != never) {
			t.Errorf("%v with everything", v)
		}
	}
}

func TestRead(t *testing.T) { // P5.2
	type reading struct {
		v    api.Len
		need int
	}
	for s, x := range map[string]reading{
		"1px": {px(64), 0}, "1PX": {px(64), 0}, "+1.0pX": {px(64), 0}, "1e2px": {px(6400), 0}, ".5px": {px(32), 0}, "0px": {px(0), 0}, "-0px": {px(0), 0}, `1\70 x`: {px(64), 0},
		"0.0078125px": {px(1), 0}, "0.0078124px": {px(0), 0}, "-0.0078124px": {px(0), 0}, "-0.0078125px": {px(-1), value.Neg}, "-2.5px": {px(-160), value.Neg},
		"1073741824px": {px(api.MaxPx), 0}, "1073741823.984375px": {px(api.MaxPx - 1), 0}, "-1073741824px": {px(-api.MaxPx), value.Neg},
		"0": {px(0), 0}, "-0.0": {px(0), 0}, "+0": {px(0), 0}, "00": {px(0), 0}, ".0": {px(0), 0}, "0e9": {px(0), 0}, "0E-9": {px(0), 0}, "-.00e+123": {px(0), 0}, strings.Repeat("0", 400): {px(0), 0},
		"50%": {pct(50000), value.Pct}, "0%": {pct(0), value.Pct}, "+.0005%": {pct(1), value.Pct}, "1073741.824%": {pct(api.MaxMille), value.Pct},
		"-50%": {pct(-50000), value.Pct | value.Neg}, "-1073741.824%": {pct(-api.MaxMille), value.Pct | value.Neg}, "-0.0001%": {pct(0), value.Pct},
		"1fr": {fr(1000), value.Flex}, "2.5FR": {fr(2500), value.Flex}, "0fr": {fr(0), value.Flex}, "-0fr": {fr(0), value.Flex}, "1073741.824Fr": {fr(api.MaxMille), value.Flex},
		"auto": {plain(api.LenAuto), value.Auto}, "AuTo": {plain(api.LenAuto), value.Auto}, `\61uto`: {plain(api.LenAuto), value.Auto},
		"min-content": {plain(api.LenMin), value.Cont}, "MIN-content": {plain(api.LenMin), value.Cont},
		"max-content": {plain(api.LenMax), value.Cont}, "max-CONTENT": {plain(api.LenMax), value.Cont},
		"none": {plain(api.LenNone), value.None}, "None": {plain(api.LenNone), value.None},
	} {
		for allow := range all + 1 {
			if x.need&^allow == 0 {
				reads(t, one(t, s), allow, x.v, api.OK)
				reads(t, one(t, s), allow|256, x.v, api.OK)
			} else {
				reads(t, one(t, s), allow, api.Len{}, api.ErrSyntax)
			}
		}
	}
}

func TestForeign(t *testing.T) { // P5.2
	for _, unit := range strings.Fields("em rem ex ch vw vh vmin vmax cm mm q in pc pt EM Rem Q vMIN PT") {
		for _, num := range []string{"1", "0", "-1", "1e99", "-1e99", strings.Repeat("1", 400)} {
			for _, allow := range []int{0, value.Neg, all, -1} {
				reads(t, api.Token{Kind: api.TokDim, Num: num, Text: unit}, allow, api.Len{}, api.ErrFeature)
			}
		}
		for _, kind := range []int{api.TokIdent, api.TokFunc, api.TokString} {
			reads(t, api.Token{Kind: kind, Text: unit}, all, api.Len{}, api.ErrSyntax)
		}
	}
	for _, name := range strings.Fields("calc min max clamp env var CALC Min mAx") {
		reads(t, api.Token{Kind: api.TokFunc, Text: name}, 0, api.Len{}, api.ErrFeature)
		reads(t, api.Token{Kind: api.TokFunc, Text: name}, all, api.Len{}, api.ErrFeature)
		reads(t, api.Token{Kind: api.TokIdent, Text: name}, all, api.Len{}, api.ErrSyntax)
		reads(t, api.Token{Kind: api.TokDim, Num: "1", Text: name}, all, api.Len{}, api.ErrSyntax)
	}
	for _, name := range strings.Fields("inherit initial unset revert INHERIT Initial") {
		reads(t, api.Token{Kind: api.TokIdent, Text: name}, 0, api.Len{}, api.ErrFeature)
		reads(t, api.Token{Kind: api.TokIdent, Text: name}, all, api.Len{}, api.ErrFeature)
		reads(t, api.Token{Kind: api.TokFunc, Text: name}, all, api.Len{}, api.ErrSyntax)
		reads(t, api.Token{Kind: api.TokString, Text: name}, all, api.Len{}, api.ErrSyntax)
		reads(t, api.Token{Kind: api.TokDim, Num: "1", Text: name}, all, api.Len{}, api.ErrSyntax)
	}
}

func TestWrongWords(t *testing.T) { // P5.2
	for _, s := range []string{
		"1", "-1", "0.1", "1e0", "10", ".01", "1e-9", "2e99", "0.00001e5",
		"1qx", "1p", "1pxx", "1e", "1f", "1frr", "1auto", "1none", "1x", `1\%`,
		"px", "fr", "a", "default", "span", "auto-fill", "min", "content", "--", "fit-content",
		"auto(", "none(", "px(", "minmax(", "fit-content(", "repeat(", "url(",
		`"auto"`, `"1px"`, `"0"`, `""`, ",", "/", ":", ";", "{", "}", "[", "]", "(", ")",
	} {
		for _, allow := range []int{0, all} {
			reads(t, one(t, s), allow, api.Len{}, api.ErrSyntax)
		}
	}
	for _, kind := range []int{api.TokEnd, api.TokSign, api.TokString, 0, 9, -1, math.MaxInt, math.MinInt} {
		for _, text := range []string{"", "auto", "px", "fr", "em", "calc", "inherit"} {
			reads(t, api.Token{Kind: kind, Num: "0", Text: text}, all, api.Len{}, api.ErrSyntax)
		}
	}
}

func TestTooGreat(t *testing.T) { // P5.2
	for _, x := range []struct {
		s     string
		allow int
		e     api.Errno
	}{
		{"1073741824.015625px", 0, api.ErrOver}, {"1073741824.0078125px", all, api.ErrOver}, {"1e99px", 0, api.ErrOver},
		{"-1073741824.015625px", value.Neg, api.ErrOver}, {"-1e99px", 0, api.ErrOver}, // Value's error goes ahead of a number's being below 0
		{"1073741.825%", value.Pct, api.ErrOver}, {"1073741.825%", all, api.ErrOver}, {"1073741.8245%", value.Pct, api.ErrOver},
		{"68719476.737%", value.Pct, api.ErrOver}, {"1e99%", value.Pct, api.ErrOver}, {"-1e99%", value.Pct, api.ErrOver}, {"-1e99%", all, api.ErrOver},
		{"1073741.825fr", value.Flex, api.ErrOver}, {"1073741.825fr", all, api.ErrOver}, {"1e99fr", value.Flex, api.ErrOver}, {"-1e99fr", all, api.ErrOver},
		{"1e99%", all &^ value.Pct, api.ErrSyntax}, {"1e99fr", all &^ value.Flex, api.ErrSyntax}, // what is not allowed goes ahead of that
		{"-1px", all &^ value.Neg, api.ErrSyntax}, {"-1%", all &^ value.Neg, api.ErrSyntax}, {"-0.001fr", all, api.ErrSyntax}, {"-1fr", all &^ value.Neg, api.ErrSyntax},
	} {
		reads(t, one(t, x.s), x.allow, api.Len{}, x.e)
	}
}

// beyond asks of numbers at the limit of a unit, and next beyond it, on the side below 0 or on the other one.
func beyond(t *testing.T, last, next string, allow int, want api.Len, e api.Errno) {
	t.Helper()
	reads(t, one(t, last), allow, want, api.OK)
	reads(t, one(t, next), allow, api.Len{}, e)
}

func TestBeyond(t *testing.T) { // P5.2: too great is what is beyond a limit, on either side; below 0 is what may not be there at all
	for _, more := range []int{0, value.Auto, value.Cont | value.None, 1 << 20} {
		per, below, parts := value.Pct|more, value.Pct|value.Neg|more, value.Flex|more
		beyond(t, "1073741.824%", "1073741.825%", per, pct(api.MaxMille), api.ErrOver)
		beyond(t, "1073741.824%", "1073741.825%", below, pct(api.MaxMille), api.ErrOver)
		beyond(t, "-1073741.824%", "-1073741.825%", below, pct(-api.MaxMille), api.ErrOver)
		beyond(t, "-1073741.8244%", "-1073741.8245%", below, pct(-api.MaxMille), api.ErrOver)
		beyond(t, "-0.0004%", "-1073741.824%", per, pct(0), api.ErrSyntax)
		beyond(t, "-0.0004%", "-1073741.825%", per, pct(0), api.ErrSyntax)
		beyond(t, "1073741.824fr", "1073741.825fr", parts, fr(api.MaxMille), api.ErrOver)
		beyond(t, "1073741.824fr", "1073741.825fr", parts|value.Neg, fr(api.MaxMille), api.ErrOver)
		for _, s := range []string{"-0.001fr", "-1fr", "-1073741.824fr", "-1073741.825fr", "-68719476.736fr"} {
			reads(t, one(t, s), parts, api.Len{}, api.ErrSyntax)
			reads(t, one(t, s), parts|value.Neg, api.Len{}, api.ErrSyntax)
		}
		for _, s := range []string{"-2000000%", "-68719476.736%", "-68719476.737%"} {
			reads(t, one(t, s), below, api.Len{}, api.ErrOver)
		}
		reads(t, one(t, "-68719476.736%"), per, api.Len{}, api.ErrSyntax)
		reads(t, one(t, "-2000000000px"), value.Neg|more, api.Len{}, api.ErrOver)
	}
}

// noNumbers are texts of which number has no value.
func noNumbers() []string {
	return []string{"", "abc", "1.", "--1", "+", "-", ".", "1e", "1e+", " 1", "1 ", "1px", "0x1", "1,5", strings.Repeat("0", 300) + "1", strings.Repeat("0", 301), "1." + strings.Repeat("0", 299)}
}

func TestNoNumbers(t *testing.T) { // P5.2, P5.3: ErrNumber is no error of these
	for _, num := range noNumbers() {
		for _, word := range []api.Token{
			{Kind: api.TokDim, Text: "px", Num: num}, {Kind: api.TokDim, Text: "PX", Num: num}, {Kind: api.TokDim, Text: "fr", Num: num}, {Kind: api.TokPct, Num: num},
		} {
			for allow := range all + 1 {
				reads(t, word, allow, api.Len{}, api.ErrSyntax)
			}
		}
		reads(t, api.Token{Kind: api.TokDim, Text: "em", Num: num}, all, api.Len{}, api.ErrFeature)
		if n, next, e := value.Integer([]api.Token{{}, {Kind: api.TokNum, Num: num}}, 1); n != 0 || next != 1 || e != api.ErrSyntax {
			t.Errorf("%q: %d, %d, %d", num, n, next, int(e))
		}
	}
	long := strings.Repeat("0", 299) + "1"
	reads(t, one(t, long+"px"), 0, px(64), api.OK)
	reads(t, one(t, long+"%"), value.Pct, pct(1000), api.OK)
	reads(t, one(t, long+"%"), all&^value.Pct, api.Len{}, api.ErrSyntax)
	reads(t, one(t, long+"fr"), value.Flex, fr(1000), api.OK)
	reads(t, one(t, long+"fr"), all&^value.Flex, api.Len{}, api.ErrSyntax)
	// What is nought without a unit is so however long it is, and whatever else it looks like.
	for _, num := range []string{"", "+", "-", ".", strings.Repeat("0", 300), strings.Repeat("0", 301), "0e" + strings.Repeat("1", 400)} {
		reads(t, api.Token{Kind: api.TokNum, Num: num}, 0, px(0), api.OK)
	}
}

func TestPlaces(t *testing.T) { // the section 'Words'
	ended := words(t, "1px 2 auto ,")
	for _, l := range [][]api.Token{nil, {}, ended, ended[:4], ended[:1]} {
		for _, at := range noPlaces(len(l)) {
			if v, n, e := value.Read(l, at, all); v != (api.Len{}) || n != at || e != api.ErrSyntax {
				t.Errorf("Read at %d of %d: %v, %d, %d", at, len(l), v, n, int(e))
			}
			if v, n, e := value.Integer(l, at); v != 0 || n != at || e != api.ErrSyntax {
				t.Errorf("Integer at %d of %d: %d, %d, %d", at, len(l), v, n, int(e))
			}
			if k, n := value.Keyword(l, at, []string{"auto", ""}); k != -1 || n != at {
				t.Errorf("Keyword at %d of %d: %d, %d", at, len(l), k, n)
			}
			if value.Sign(l, at, ",") || value.Sign(l, at, "") {
				t.Errorf("Sign at %d of %d", at, len(l))
			}
		}
	}
	if v, n, e := value.Read(ended, 4, all); v != (api.Len{}) || n != 4 || e != api.ErrSyntax {
		t.Error("at the end", v, n, int(e))
	}
	if v, n, e := value.Read(ended, 2, all); v != plain(api.LenAuto) || n != 3 || e != api.OK {
		t.Error("in the middle", v, n, int(e))
	}
}

func TestInteger(t *testing.T) { // P5.3
	for s, want := range map[string]int{
		"0": 0, "1": 1, "+12": 12, "-3": -3, "007": 7, "-0": 0, "68719476736": api.MaxPx, "-68719476736": -api.MaxPx, strings.Repeat("0", 299) + "9": 9,
	} {
		if n, next, e := value.Integer([]api.Token{{}, one(t, s)}, 1); n != want || next != 2 || e != api.OK {
			t.Errorf("%s: %d, %d, %d", s, n, next, int(e))
		}
	}
	for s, want := range map[string]api.Errno{
		"68719476737": api.ErrOver, "-68719476737": api.ErrOver, strings.Repeat("9", 300): api.ErrOver, "-" + strings.Repeat("9", 299): api.ErrOver, strings.Repeat("0", 301): api.ErrSyntax, "-" + strings.Repeat("0", 299) + "1": api.ErrSyntax,
		"1.0": api.ErrSyntax, ".5": api.ErrSyntax, "0.0": api.ErrSyntax, "1e0": api.ErrSyntax, "1E0": api.ErrSyntax, "1e99": api.ErrSyntax, "1.5e1": api.ErrSyntax, "1e-1": api.ErrSyntax,
		"1px": api.ErrSyntax, "1%": api.ErrSyntax, "2fr": api.ErrSyntax, "1em": api.ErrSyntax, "a": api.ErrSyntax, "inherit": api.ErrSyntax, "calc(": api.ErrSyntax, `"1"`: api.ErrSyntax, ",": api.ErrSyntax,
	} {
		if n, next, e := value.Integer([]api.Token{{}, one(t, s)}, 1); n != 0 || next != 1 || e != want {
			t.Errorf("%s: %d, %d, %d", s, n, next, int(e))
		}
	}
	for _, kind := range []int{api.TokIdent, api.TokFunc, api.TokPct, api.TokDim, api.TokString, api.TokSign, api.TokEnd, 0, 9, -1} {
		if n, next, e := value.Integer([]api.Token{{Kind: kind, Num: "1", Text: "1"}}, 0); n != 0 || next != 0 || e != api.ErrSyntax {
			t.Errorf("kind %d: %d, %d, %d", kind, n, next, int(e))
		}
	}
}

func TestKeyword(t *testing.T) { // P5.3
	for _, x := range []struct {
		s     string
		words []string
		want  int
	}{
		{"span", []string{"a", "span", "b"}, 1}, {"SPAN", []string{"a", "span"}, 1}, {"span", []string{"a", "sPaN"}, 1}, {"a", []string{"A", "a"}, 0}, {"b", []string{"a", "b", "B"}, 1}, {`\61`, []string{"a"}, 0},
		{"a", nil, -1}, {"a", []string{}, -1}, {"a", []string{"", "b", "aa"}, -1}, {"é", []string{"É"}, -1},
		{"a(", []string{"a"}, -1}, {`"a"`, []string{"a"}, -1}, {"1a", []string{"a"}, -1}, {"1", []string{"1"}, -1}, {",", []string{","}, -1},
	} {
		next := 1
		if x.want >= 0 {
			next = 2
		}
		if k, n := value.Keyword([]api.Token{{}, one(t, x.s)}, 1, x.words); k != x.want || n != next {
			t.Errorf("%s of %q: %d, %d", x.s, x.words, k, n)
		}
	}
	for _, kind := range []int{api.TokFunc, api.TokNum, api.TokPct, api.TokDim, api.TokString, api.TokSign, api.TokEnd, 0, 9, -1} {
		if k, n := value.Keyword([]api.Token{{Kind: kind, Text: "a", Num: "a"}}, 0, []string{"a"}); k != -1 || n != 0 {
			t.Errorf("kind %d: %d, %d", kind, k, n)
		}
	}
}

func TestSign(t *testing.T) { // P5.3
	signs := strings.Split(",/:;{}[]()", "")
	for i, s := range signs {
		l := []api.Token{{}, one(t, s)}
		for k, other := range signs {
			if value.Sign(l, 1, other) != (i == k) {
				t.Errorf("%s as %s", s, other)
			}
		}
		if value.Sign(l, 0, s) || value.Sign(l, 1, "") || value.Sign(l, 1, s+s) {
			t.Errorf("%s as another", s)
		}
		for _, kind := range []int{api.TokIdent, api.TokFunc, api.TokNum, api.TokPct, api.TokDim, api.TokString, api.TokEnd, 0, 9, -1} {
			if value.Sign([]api.Token{{Kind: kind, Text: s, Num: s}}, 0, s) {
				t.Errorf("%s of kind %d", s, kind)
			}
		}
	}
}

func TestText(t *testing.T) { // P5.4
	for v, want := range map[api.Len]string{
		px(0): "0px", px(96): "1.5px", px(1): "0.015625px", px(-64): "-1px", px(api.MaxPx): "1073741824px", px(-api.MaxPx): "-1073741824px",
		pct(0): "0%", pct(50000): "50%", pct(-500): "-0.5%", pct(api.MaxMille): "1073741.824%", pct(-api.MaxMille): "-1073741.824%",
		fr(0): "0fr", fr(1000): "1fr", fr(1): "0.001fr", fr(api.MaxMille): "1073741.824fr",
		plain(api.LenAuto): "auto", plain(api.LenMin): "min-content", plain(api.LenMax): "max-content", plain(api.LenNone): "none",
		px(api.MaxPx + 1): "", px(-api.MaxPx - 1): "", pct(api.MaxMille + 1): "", pct(-api.MaxMille - 1): "", fr(-1): "", fr(api.MaxMille + 1): "", px(math.MinInt): "",
		{Kind: api.LenAuto, N: 1}: "", {Kind: api.LenMin, N: -1}: "", {Kind: api.LenMax, N: 1}: "", {Kind: api.LenNone, N: 1}: "", {}: "", plain(8): "", plain(-1): "",
	} {
		if s := value.Text(v); s != want {
			t.Errorf("%v: %q, not %q", v, s, want)
		}
	}
}

func TestResolve(t *testing.T) { // P5.5
	for _, x := range []struct {
		v        api.Len
		basis    int
		definite bool
		n        int
		ok       bool
		e        api.Errno
	}{
		{px(96), 400, true, 96, true, api.OK}, {px(96), 400, false, 96, true, api.OK}, {px(-5), math.MinInt, true, -5, true, api.OK}, {px(0), 0, false, 0, true, api.OK}, {px(api.MaxPx), math.MaxInt, true, api.MaxPx, true, api.OK},
		{pct(25000), 400, true, 100, true, api.OK}, {pct(25000), 400, false, 0, false, api.OK}, {pct(0), 400, true, 0, true, api.OK}, {pct(33333), 100, true, 33, true, api.OK}, {pct(-33333), 100, true, -34, true, api.OK}, {pct(50000), -3, true, -2, true, api.OK},
		{pct(100000), api.MaxPx, true, api.MaxPx, true, api.OK}, {pct(100001), api.MaxPx, true, 0, false, api.ErrOver}, {pct(api.MaxMille), -api.MaxPx, true, 0, false, api.ErrOver},
		{pct(1), api.MaxPx + 1, true, 0, false, api.ErrArg}, {pct(1), math.MinInt, true, 0, false, api.ErrArg}, {pct(api.MaxMille + 1), 1, true, 0, false, api.ErrArg}, {pct(-api.MaxMille - 1), 1, true, 0, false, api.ErrArg}, {pct(1), math.MaxInt, false, 0, false, api.OK},
		{fr(1000), 400, true, 0, false, api.OK}, {plain(api.LenAuto), 400, true, 0, false, api.OK}, {plain(api.LenMin), 400, true, 0, false, api.OK}, {plain(api.LenMax), 400, true, 0, false, api.OK}, {plain(api.LenNone), 400, true, 0, false, api.OK},
		{api.Len{}, 400, true, 0, false, api.OK}, {api.Len{Kind: 8, N: 5}, 400, true, 0, false, api.OK}, {api.Len{Kind: -1, N: 5}, math.MaxInt, false, 0, false, api.OK},
	} {
		if n, ok, e := value.Resolve(x.v, x.basis, x.definite); n != x.n || ok != x.ok || e != x.e {
			t.Errorf("%v of %d, %v: %d, %v, %d", x.v, x.basis, x.definite, n, ok, int(e))
		}
	}
}

// sizes are those at the edges, and some between them, all of which may be.
func sizes() []api.Len {
	l := []api.Len{plain(api.LenAuto), plain(api.LenMin), plain(api.LenMax), plain(api.LenNone)}
	for _, n := range []int{0, 1, 31, 63, 64, 65, 999, 1000, 1001, 123456789, api.MaxMille - 1, api.MaxMille} {
		l = append(l, px(n), px(-n), pct(n), pct(-n), fr(n))
	}
	for n := range 3000 {
		l = append(l, px(n*n*n), px(-n*n*n), pct(n*n), pct(-n*n), fr(n*n))
	}
	return append(l, px(api.MaxPx-1), px(api.MaxPx), px(1-api.MaxPx), px(-api.MaxPx))
}

func TestBack(t *testing.T) { // P5.6
	for _, v := range sizes() {
		if !value.Good(v, all) {
			t.Errorf("%v may not be", v)
		}
		l := words(t, value.Text(v))
		if r, n, e := value.Read(l, 0, all); r != v || n != 1 || len(l) != 2 || e != api.OK {
			t.Errorf("%v as %q: %v, %d, %d", v, value.Text(v), r, n, int(e))
		}
		for allow := range all + 1 {
			_, _, e := value.Read(l, 0, allow)
			if (e == api.OK) != value.Good(v, allow) {
				t.Errorf("%v with %d: %d", v, allow, int(e))
			}
		}
	}
}

func TestOther(t *testing.T) { // P5.7
	l := words(t, "1px 0 -0 -1px 1% -1% 1fr -1fr 0fr 0% auto min-content max-content none 1em calc( inherit 1 a [ 'x' 1e99px 1e99% 1e99fr 2000000% 2000000fr")
	for at := range l {
		for less := range all + 1 {
			v, _, e := value.Read(l, at, less)
			if e != api.OK {
				continue
			}
			for more := range all + 1 {
				if w, n, f := value.Read(l, at, less|more); w != v || n != at+1 || f != api.OK {
					t.Errorf("%v with %d: %v; with %d: %v, %d", l[at], less, v, less|more, w, int(f))
				}
			}
		}
	}
}

func TestUnchanged(t *testing.T) { // rule 4
	l := words(t, "1PX AUTO 12 , 2em -1px [")
	keywords := []string{"A", "Auto"}
	ahead := slices.Clone(l)
	for at := range l {
		value.Read(l[:at], at, all)
		value.Read(l, at, all)
		value.Integer(l, at)
		value.Keyword(l, at, keywords[:1])
		value.Keyword(l, at, keywords)
		value.Sign(l, at, "[")
	}
	if !slices.Equal(l, ahead) || keywords[0] != "A" || keywords[1] != "Auto" {
		t.Error(l, keywords)
	}
}
