package token

import (
	"math"
	"regexp"
	"slices"
	"strconv"
	"strings"
	"testing"

	"parterre/api"
)

func name(at int, text string) api.Token {
	return api.Token{Kind: api.TokIdent, At: at, Text: text}
}

func call(at int, text string) api.Token {
	return api.Token{Kind: api.TokFunc, At: at, Text: text}
}

func num(at int, text string) api.Token { return api.Token{Kind: api.TokNum, At: at, Num: text} }

func pct(at int, text string) api.Token { return api.Token{Kind: api.TokPct, At: at, Num: text} }

func dim(at int, text, unit string) api.Token {
	return api.Token{Kind: api.TokDim, At: at, Num: text, Text: unit}
}

func quote(at int, text string) api.Token {
	return api.Token{Kind: api.TokString, At: at, Text: text}
}

func sign(at int, text string) api.Token { return api.Token{Kind: api.TokSign, At: at, Text: text} }

// same tells whether a text has these words, and no error.
func same(t *testing.T, s string, words ...api.Token) {
	t.Helper()
	words = append(words, api.Token{Kind: api.TokEnd, At: len(s)})
	if l, at, e := Tokens([]byte(s)); e != api.OK || at != 0 || !slices.Equal(l, words) {
		t.Errorf("%q: %v, %d, %d; not %v", s, l, at, int(e), words)
	}
}

// fails tells whether a text has that error there, and no words.
func fails(t *testing.T, s string, at int, e api.Errno) {
	t.Helper()
	if l, n, f := Tokens([]byte(s)); len(l) != 0 || n != at || f != e {
		t.Errorf("%.40q (%d bytes): %d words, %d, %d; not %d, %d", s, len(s), len(l), n, int(f), at, int(e))
	}
}

// chance yields numbers below n that are the same in each run.
func chance(seed uint64) func(n int) int {
	return func(n int) int {
		seed = seed*6364136223846793005 + 1442695040888963407
		return int((seed >> 20) % uint64(n))
	}
}

func TestExample(t *testing.T) {
	same(t, "repeat(2, 1fr)", call(0, "repeat"), num(7, "2"), sign(8, ","), dim(10, "1", "fr"), sign(13, ")"))
	same(t, `\31 a`, name(0, "1a"))
}

func TestNoWords(t *testing.T) { // P3.1
	same(t, "")
	same(t, " \t\n\r\f")
	same(t, "/**/")
	same(t, "/***/ /* /* */")
	if l, at, e := Tokens(nil); len(l) != 1 || l[0] != (api.Token{Kind: api.TokEnd}) || at != 0 || e != api.OK {
		t.Error(l, at, int(e))
	}
}

func TestBlanksAndComments(t *testing.T) { // P3.1
	same(t, "a b\tc\nd\re\ff", name(0, "a"), name(2, "b"), name(4, "c"), name(6, "d"), name(8, "e"), name(10, "f"))
	same(t, "a/**/b", name(0, "a"), name(5, "b"))
	same(t, "1/**/px", num(0, "1"), name(5, "px"))
	fails(t, "1/**/%", 5, api.ErrToken)
	same(t, "a/**/(", name(0, "a"), sign(5, "("))
	same(t, "a (", name(0, "a"), sign(2, "("))
	same(t, "/*a*/b/*c*/", name(5, "b"))
	same(t, "/*\x00\n'\"\\*/a", name(9, "a"))
	same(t, "/* * / ** */;", sign(12, ";"))
}

func TestIdentifiers(t *testing.T) { // P3.1
	for _, s := range []string{"a", "Z", "_", "-a", "--", "---", "--1", "-_", "a1", "a-", "a-1", "é", "\x80", "\xff1", "-é", "aé_-9", "A0z"} {
		same(t, s, name(0, s))
		same(t, s+"(", call(0, s))
		same(t, " "+s+" (", name(1, s), sign(len(s)+2, "("))
		same(t, "1"+s+"(", dim(0, "1", s), sign(len(s)+1, "("))
	}
	same(t, "a+1", name(0, "a"), num(1, "+1"))
	same(t, "a.5", name(0, "a"), num(1, ".5"))
	same(t, "a'b'", name(0, "a"), quote(1, "b"))
	same(t, "a((", call(0, "a"), sign(2, "("))
}

func TestEscapesInIdentifiers(t *testing.T) { // P3.1
	same(t, `\41`, name(0, "A"))
	same(t, `\41 b`, name(0, "Ab"))
	same(t, `\41  b`, name(0, "A"), name(5, "b"))
	same(t, `-\41`, name(0, "-A"))
	same(t, `-\31(`, call(0, "-1"))
	same(t, `a\ b`, name(0, "a b"))
	same(t, `\(\)(`, call(0, "()"))
	same(t, `\\`, name(0, `\`))
	same(t, `\"`, name(0, `"`))
	same(t, `1\65 3`, dim(0, "1", "e3"))
	same(t, `1\%`, dim(0, "1", "%"))
	same(t, `1\2d 1`, dim(0, "1", "-1"))
	same(t, `a\0`, name(0, "a\ufffd"))
	same(t, `\0000411`, name(0, "A1"))
	same(t, "\\41\nb", name(0, "Ab"))
	same(t, "\\41\r\nb", name(0, "A"), name(5, "b")) // one blank alone is the escape's
	same(t, "1\\41\rb", dim(0, "1", "Ab"))
	same(t, "\\é", name(0, "é"))
}

func TestNumbers(t *testing.T) { // P3.1
	for _, s := range []string{"0", "1", "12.5", ".5", "+1", "-1", "-.5", "+.5e3", "1e3", "1E-3", "007", strings.Repeat("9", 1000)} {
		same(t, s, num(0, s))
		same(t, s+"%", pct(0, s))
		same(t, s+"px", dim(0, s, "px"))
		same(t, s+"--", dim(0, s, "--"))
		same(t, s+"-x", dim(0, s, "-x"))
		same(t, s+`\70x`, dim(0, s, "px"))
		fails(t, s+" %", len(s)+1, api.ErrToken)
		same(t, s+" px", num(0, s), name(len(s)+1, "px"))
		same(t, s+"/1", num(0, s), sign(len(s), "/"), num(len(s)+1, "1"))
		same(t, s+"%a", pct(0, s), name(len(s)+1, "a"))
	}
	same(t, "1-1", num(0, "1"), num(1, "-1"))
	same(t, "1+1", num(0, "1"), num(1, "+1"))
	same(t, "1.5.5", num(0, "1.5"), num(3, ".5"))
	same(t, "1e", dim(0, "1", "e"))
	same(t, "1em", dim(0, "1", "em"))
	same(t, "1e-", dim(0, "1", "e-"))
	same(t, "1e-x", dim(0, "1", "e-x"))
	same(t, "1e3e3", dim(0, "1e3", "e3"))
	same(t, "1px2", dim(0, "1", "px2"))
	same(t, "-1a", dim(0, "-1", "a"))
	same(t, "--1a", name(0, "--1a"))
	same(t, "-a1", name(0, "-a1"))
	same(t, "1--1", dim(0, "1", "--1"))
	same(t, "-1-1", num(0, "-1"), num(2, "-1"))
	same(t, "-1-a", dim(0, "-1", "-a"))
}

func TestStrings(t *testing.T) { // P3.1
	for _, q := range []string{`"`, `'`} {
		other := map[string]string{`"`: `'`, `'`: `"`}[q]
		for s, want := range map[string]string{
			"": "", "a": "a", other: other, "/*": "/*", " \t": " \t", "é\xff\x01\x7f": "é\xff\x01\x7f", "a(1){": "a(1){",
			`\` + q: q, `\` + other: other, `\\`: `\`, `\g`: "g", `\41`: "A", `\41 1`: "A1", `\41  1`: "A 1", `\0`: "\ufffd", "\\41\n1": "A1", "\\41\r1": "A1", "\\41\f1": "A1", "\\41\t1": "A1",
			"\\\n": "", "a\\\nb": "ab", "a\\\rb": "ab", "a\\\fb": "ab", "a\\\r\nb": "ab", "a\\\n\\\r\\\f\\\r\nb": "ab", "\\\n\\41": "A",
		} {
			same(t, q+s+q, quote(0, want))
			same(t, "1"+q+s+q+"a", num(0, "1"), quote(1, want), name(len(s)+3, "a"))
		}
	}
}

func TestSigns(t *testing.T) { // P3.1
	same(t, ",/:;{}[]()", sign(0, ","), sign(1, "/"), sign(2, ":"), sign(3, ";"), sign(4, "{"), sign(5, "}"), sign(6, "["), sign(7, "]"), sign(8, "("), sign(9, ")"))
	same(t, "//", sign(0, "/"), sign(1, "/"))
}

func TestEachByte(t *testing.T) { // P3.1, P3.2
	for c := range 256 {
		s := string([]byte{byte(c)})
		switch {
		case strings.Contains(" \t\n\r\f", s):
			same(t, s)
		case strings.Contains(",/:;{}[]()", s):
			same(t, s, sign(0, s))
		case strings.Contains("0123456789", s):
			same(t, s, num(0, s))
		case c >= 0x80 || strings.Contains("_abcdefghijklmnopqrstuvwxyzABCDEFGHIJKLMNOPQRSTUVWXYZ", s):
			same(t, s, name(0, s))
		default:
			fails(t, s, 0, api.ErrToken)
			fails(t, "a "+s, 2, api.ErrToken)
		}
	}
}

func TestLetter(t *testing.T) { // the section Words
	for c := range 256 {
		want := c >= 0x80 || c != 0 && strings.IndexByte("_abcdefghijklmnopqrstuvwxyzABCDEFGHIJKLMNOPQRSTUVWXYZ", byte(c)) >= 0
		if Letter(byte(c)) != want {
			t.Errorf("Letter(%q): %t", byte(c), !want)
		}
	}
}

func TestHex(t *testing.T) { // the section Words
	for _, x := range []struct {
		s    string
		at   int
		want string
		n    int
	}{
		{`\4`, 0, "\x04", 2}, {`\41`, 0, "A", 3}, {`\041`, 0, "A", 4}, {`\0041`, 0, "A", 5}, {`\00041`, 0, "A", 6}, {`\000041`, 0, "A", 7}, {`\0000411`, 0, "A", 7},
		{`\1F600`, 0, "\U0001f600", 6}, {`\01f6001`, 0, "\U0001f600", 7}, {`\10ffff`, 0, "\U0010ffff", 7}, {`\10FFFFF`, 0, "\U0010ffff", 7},
		{`\aBg`, 0, "\u00ab", 3}, {`\f`, 0, "\x0f", 2}, {`\F `, 0, "\x0f", 3}, {`\a`, 0, "\n", 2}, {`\9G`, 0, "\t", 2},
		{`\41 b`, 0, "A", 4}, {`\41  b`, 0, "A", 4}, {"\\41\tb", 0, "A", 4}, {"\\41\nb", 0, "A", 4}, {"\\41\rb", 0, "A", 4}, {"\\41\fb", 0, "A", 4}, {"\\41\r\nb", 0, "A", 4}, {"\\41\vb", 0, "A", 3}, {"\\41\x00b", 0, "A", 3}, {`\000041 `, 0, "A", 8},
		{`\0`, 0, "\ufffd", 2}, {`\000000`, 0, "\ufffd", 7}, {`\0000000`, 0, "\ufffd", 7}, {`\0 0`, 0, "\ufffd", 3},
		{`\d7ff`, 0, "\ud7ff", 5}, {`\d800`, 0, "\ufffd", 5}, {`\dbff`, 0, "\ufffd", 5}, {`\DFFF `, 0, "\ufffd", 6}, {`\e000`, 0, "\ue000", 5}, {`\fffd`, 0, "\ufffd", 5}, {`\ffff`, 0, "\uffff", 5},
		{`\110000`, 0, "\ufffd", 7}, {`\ffffff`, 0, "\ufffd", 7}, {`\7f`, 0, "\x7f", 3}, {`\80`, 0, "\u0080", 3}, {`\7ff`, 0, "\u07ff", 4}, {`\800`, 0, "\u0800", 4}, {`\10000`, 0, "\U00010000", 6},
		{`\g`, 0, "g", 2}, {`\ `, 0, " ", 2}, {"\\\t", 0, "\t", 2}, {`\\`, 0, `\`, 2}, {`\"`, 0, `"`, 2}, {"\\\x00", 0, "\x00", 2}, {"\\\xff", 0, "\xff", 2}, {"\\é", 0, "\xc3", 2}, {`\-1`, 0, "-", 2}, {`\g f`, 0, "g", 2},
		{`\`, 0, "", 0}, {"\\\n", 0, "", 0}, {"\\\r", 0, "", 0}, {"\\\f", 0, "", 0}, {"\\\r\n", 0, "", 0}, {"\\\n41", 0, "", 0},
		{`ab\41 c`, 2, "A", 4}, {`ab\`, 2, "", 0}, {`ab\41 c`, 1, "", 0}, {`ab\41 c`, 3, "", 0}, {`\\41`, 1, "A", 3},
		{"", 0, "", 0}, {`\41`, 3, "", 0}, {`\41`, 4, "", 0}, {`\41`, -1, "", 0}, {`\41`, math.MaxInt, "", 0}, {`\41`, math.MinInt, "", 0}, {"41", 0, "", 0}, {"/41", 0, "", 0},
	} {
		if s, n := Hex(x.s, x.at); s != x.want || n != x.n {
			t.Errorf("Hex(%q, %d): %q, %d", x.s, x.at, s, n)
		}
	}
}

func TestHexOfEachByte(t *testing.T) { // the section Words
	for c := range 256 {
		b := string([]byte{byte(c)})
		want, n := b, 2
		if v, err := strconv.ParseUint(b, 16, 8); err == nil {
			want = string([]rune{rune(v)})
			if v == 0 {
				want = "\ufffd"
			}
		} else if strings.Contains("\n\r\f", b) {
			want, n = "", 0
		}
		if s, m := Hex("x\\"+b, 1); s != want || m != n {
			t.Errorf("Hex of %q: %q, %d", b, s, m)
		}
	}
}

func TestWrongWords(t *testing.T) { // P3.2
	for _, x := range []struct {
		s  string
		at int
	}{
		{"#", 0}, {"a #", 2}, {"a#", 1}, {"1 !", 2}, {"-", 0}, {"+", 0}, {".", 0}, {"a -", 2}, {"- 1", 0}, {"+a", 0}, {"-+1", 0}, {"-.", 0}, {"1.", 1}, {"1-", 1}, {"1 %", 2}, {"%", 0}, {"1%%", 2}, {"*/", 0}, {"/ *", 2}, {"<", 0}, {"\v", 0}, {"\x7f", 0},
		{"/*", 0}, {"/*/", 0}, {"a /* * /", 2}, {"/* */ /*", 6}, {"a/*\x00", 1},
		{`"`, 0}, {`'`, 0}, {`a "b`, 2}, {`"a'`, 0}, {`'a"`, 0}, {`"a\"`, 0}, {`"\`, 0}, {`'\41`, 0}, {`""'`, 2}, {"a\"\\\n", 1},
		{"'a\nb'", 0}, {"'a\rb'", 0}, {"'a\fb'", 0}, {" '\n'", 1}, {"'a\\\n\n'", 0}, {"'a\\\r\r'", 0}, {"'a\\\n\r'", 0}, {"'a\\\f\n'", 0}, {"'\\41\r\n'", 0}, {"'\\\\\n'", 0},
		{"\x00", 0}, {"a\x00", 1}, {" \x00 ", 1}, {"'\x00'", 0}, {"a 'b\x00c'", 2}, {"'\\\x00'", 0}, {"a \\\x00", 2}, {"ab\\\x00c", 0}, {"12\\\x00", 0}, {"12-\\\x00", 0}, {"12\x00", 2}, {"-\\\x00", 0}, {"-\x00", 0}, {"--\x00", 2}, {"\\41\x00", 3}, {"a(\x00", 2}, {"/**/\x00", 4},
		{`\`, 0}, {`a\`, 1}, {`1\`, 1}, {`-\`, 0}, {`1-\`, 1}, {`--\`, 2}, {`a \`, 2}, {"\\\n", 0}, {"\\\r", 0}, {"\\\f", 0}, {"a\\\nb", 1}, {"a\\\r\n", 1}, {"-\\\f", 0}, {"1\\\n", 1},
	} {
		fails(t, x.s, x.at, api.ErrToken)
	}
}

func TestMaxBytes(t *testing.T) { // P3.2
	blanks := strings.Repeat(" ", api.MaxBytes)
	same(t, blanks)
	same(t, blanks[1:]+"a", name(api.MaxBytes-1, "a"))
	fails(t, blanks+" ", api.MaxBytes, api.ErrLimit)
	fails(t, blanks+"a", api.MaxBytes, api.ErrLimit)
	fails(t, "#"+blanks, api.MaxBytes, api.ErrLimit)
	fails(t, strings.Repeat(";", 2*api.MaxBytes), api.MaxBytes, api.ErrLimit)
}

func TestMaxName(t *testing.T) { // P3.2
	most := strings.Repeat("a", api.MaxName)
	same(t, most, name(0, most))
	same(t, most+"(", call(0, most))
	same(t, "1"+most, dim(0, "1", most))
	fails(t, most+"a", 0, api.ErrLimit)
	fails(t, "b "+most+"a(", 2, api.ErrLimit)
	fails(t, "b 12"+most+"a", 2, api.ErrLimit)
	fails(t, "/*"+most+"a*/"+most+"a", 69, api.ErrLimit)

	// What the identifier means is what counts, not how it is written.
	escaped := strings.Repeat(`\000041 `, api.MaxName)
	same(t, escaped, name(0, strings.Repeat("A", api.MaxName)))
	fails(t, escaped+"-", 0, api.ErrLimit)
	same(t, most[3:]+`\0`, name(0, most[3:]+"\ufffd"))
	fails(t, most[2:]+`\0`, 0, api.ErrLimit)
	fails(t, strings.Repeat(`\10ffff `, api.MaxName/4)+"a", 0, api.ErrLimit)
}

func TestMaxString(t *testing.T) { // P3.2
	most := strings.Repeat("a", api.MaxString)
	same(t, `"`+most+`"`, quote(0, most))
	fails(t, `"`+most+`a"`, 0, api.ErrLimit)
	fails(t, `b '`+most+`a'`, 2, api.ErrLimit)
	escaped := strings.Repeat(`\41 `, api.MaxString)
	same(t, "'"+escaped+"\\\n\\\r\n'", quote(0, strings.Repeat("A", api.MaxString)))
	fails(t, "'"+escaped+"\\''", 0, api.ErrLimit)
}

func TestMaxTokens(t *testing.T) { // P3.2
	most := strings.Repeat(";", api.MaxTokens)
	l, at, e := Tokens([]byte(most))
	if len(l) != api.MaxTokens+1 || at != 0 || e != api.OK || l[api.MaxTokens] != (api.Token{Kind: api.TokEnd, At: api.MaxTokens}) {
		t.Error(len(l), at, int(e))
	}
	l, at, e = Tokens([]byte(most + " /**/ "))
	if len(l) != api.MaxTokens+1 || at != 0 || e != api.OK {
		t.Error(len(l), at, int(e))
	}
	fails(t, most+";", api.MaxTokens, api.ErrLimit)
	fails(t, most+" a b c", api.MaxTokens+1, api.ErrLimit)
}

func TestOrderOfErrors(t *testing.T) { // P3.2
	name, text, many := strings.Repeat("a", api.MaxName+9), strings.Repeat("a", api.MaxString+9), strings.Repeat(";", api.MaxTokens+1)
	fails(t, name+" #", 0, api.ErrLimit)
	fails(t, "# "+name, 0, api.ErrToken)
	fails(t, name+"\\\x00", 0, api.ErrToken)
	fails(t, name+"\x00", 0, api.ErrLimit)
	fails(t, "'"+text, 0, api.ErrToken)
	fails(t, "'"+text+"\n'", 0, api.ErrToken)
	fails(t, "'"+text+"\x00'", 0, api.ErrToken)
	fails(t, "'"+text+"'\x00", 0, api.ErrLimit)
	fails(t, many+"#", api.MaxTokens+1, api.ErrToken)
	fails(t, many+name, api.MaxTokens+1, api.ErrLimit)
	fails(t, many+"/*", api.MaxTokens+1, api.ErrToken)
	fails(t, many[1:]+"#", api.MaxTokens, api.ErrToken)
}

// oracle tells words by regular expressions, as far as there is nothing wrong with them.
type oracle struct{ gap, name, number, text, sign, escape *regexp.Regexp }

func newOracle() oracle {
	const (
		blank  = `[ \t\n\r\f]`
		escape = `\\(?:[0-9a-fA-F]{1,6}` + blank + `?|[^\n\r\f0-9a-fA-F])`
		letter = `[a-zA-Z_]|[^\x00-\x7f]`
		quoted = `(?:[^Q\\\n\r\f]|\\(?:\r\n|\n|\r|\f)|` + escape + `)*`
	)
	of := func(s string) *regexp.Regexp { return regexp.MustCompile(`(?s)^(?:` + s + `)`) }
	return oracle{
		gap:    of(`(?:` + blank + `|/\*.*?\*/)*`),
		name:   of(`(?:--|-?(?:` + letter + `|` + escape + `))(?:` + letter + `|[-0-9]|` + escape + `)*`),
		number: of(`[-+]?(?:[0-9]+\.[0-9]+|[0-9]+|\.[0-9]+)(?:[eE][-+]?[0-9]+)?`),
		text:   of(`"` + strings.ReplaceAll(quoted, "Q", `"`) + `"|'` + strings.ReplaceAll(quoted, "Q", `'`) + `'`),
		sign:   of(`[,/:;{}\[\]()]`),
		escape: regexp.MustCompile(`(?s)\\(?:\r\n|\n|\r|\f)|` + escape),
	}
}

func (o oracle) meaning(s string) string {
	return o.escape.ReplaceAllStringFunc(s, func(s string) string {
		s = s[1:]
		code, err := strconv.ParseUint(strings.Trim(s, " \t\n\r\f"), 16, 32)
		switch {
		case strings.Trim(s, "\r\n\f") == "":
			return ""
		case err != nil:
			return s
		case code == 0 || code > 0x10ffff:
			return "\ufffd"
		}
		return string([]rune{rune(code)})
	})
}

// word tells the word with which s begins, and its length; none, if that is wrong.
func (o oracle) word(s string) (w api.Token, n int) {
	digits, sign := o.number.FindString(s), o.sign.FindString(s)
	n = len(digits)
	rest := s[n:]
	unit := o.name.FindString(rest)
	switch {
	case strings.HasPrefix(s, "/*"):
		return w, 0
	case digits != "" && strings.HasPrefix(rest, "%"):
		w, n = pct(0, digits), n+1
	case digits != "" && unit != "":
		w, n = dim(0, digits, o.meaning(unit)), n+len(unit)
	case digits != "":
		w = num(0, digits)
	case unit != "" && strings.HasPrefix(s[len(unit):], "("):
		w, n = call(0, o.meaning(unit)), len(unit)+1
	case unit != "":
		w, n = name(0, o.meaning(unit)), len(unit)
	case sign != "":
		w, n = api.Token{Kind: api.TokSign, Text: sign}, 1
	default:
		n = len(o.text.FindString(s))
		if n > 0 {
			w = quote(0, o.meaning(s[1:n-1]))
		}
	}
	if strings.Contains(s[:n], "\x00") {
		return w, 0
	}
	return w, n
}

func (o oracle) words(s string) (l []api.Token, at int, e api.Errno) {
	for at = len(o.gap.FindString(s)); at < len(s); at += len(o.gap.FindString(s[at:])) {
		w, n := o.word(s[at:])
		if n == 0 {
			return nil, at, api.ErrToken
		}
		w.At = at
		l = append(l, w)
		at += n
	}
	return append(l, api.Token{Kind: api.TokEnd, At: len(s)}), 0, api.OK
}

// scrap puts together a text of parts that are something to words.
func scrap(next func(int) int, most int) string {
	parts := []string{"a", "e", "F", "-", "-", "+", ".", "0", "1", "41", `\`, `\`, "\n", "\r", "\f", " ", " ", "\t", `"`, `"`, `'`, "/*", "*/", "/", "*", "(", ")", ",", "%", "é", "\xff", "\x00", "#", "px", "d800", `\3`, "''", `""`}
	s := ""
	for range next(most) {
		s += parts[next(len(parts))]
	}
	return s
}

func TestAsRegularExpressionsTell(t *testing.T) { // P3.1, P3.2
	o, next, good := newOracle(), chance(6), 0
	for range 60000 {
		s := scrap(next, 9)
		l, at, e := Tokens([]byte(s))
		want, place, fault := o.words(s)
		if at != place || e != fault || !slices.Equal(l, want) {
			t.Fatalf("%q: %v, %d, %d; not %v, %d, %d", s, l, at, int(e), want, place, int(fault))
		}
		if e == api.OK {
			good++
		}
	}
	if good < 10000 {
		t.Error("few without an error:", good)
	}
}

func TestWhole(t *testing.T) { // P3.3
	o, next := newOracle(), chance(7)
	for range 30000 {
		s := scrap(next, 9)
		l, _, e := Tokens([]byte(s))
		if e != api.OK {
			continue
		}
		end := 0
		for _, w := range l {
			if w.At < end || len(o.gap.FindString(s[end:w.At])) != w.At-end {
				t.Fatalf("%q: between %d and %d", s, end, w.At)
			}
			end = w.At
			if w.Kind != api.TokEnd {
				_, n := o.word(s[w.At:])
				end += n
			}
		}
		if end != len(s) || l[len(l)-1].Kind != api.TokEnd {
			t.Fatalf("%q: ends at %d", s, end)
		}
	}
}

func TestParts(t *testing.T) { // P3.4
	next, both := chance(8), 0
	for range 30000 {
		a, b, gap := scrap(next, 5), scrap(next, 5), []string{"  ", "\t ", "\n\f", "\r\n", " \r"}[next(5)]
		first, _, e := Tokens([]byte(a))
		second, _, f := Tokens([]byte(b))
		if e != api.OK || f != api.OK {
			continue
		}
		both++
		want := slices.Clone(first[:len(first)-1])
		for _, w := range second {
			w.At += len(a) + len(gap)
			want = append(want, w)
		}
		if l, at, e := Tokens([]byte(a + gap + b)); e != api.OK || at != 0 || !slices.Equal(l, want) {
			t.Fatalf("%q and %q: %v, %d, %d", a, b, l, at, int(e))
		}
	}
	if both < 5000 {
		t.Error("few without an error:", both)
	}
}

func TestHandedIn(t *testing.T) { // rules 4, 5 and 8
	room := []byte("a 'b\\41 c' 1px/**/ ...")
	b, kept := room[:19], string(room)
	l, at, e := Tokens(b)
	want := slices.Clone(l)
	if at != 0 || e != api.OK || string(room) != kept {
		t.Fatal(at, int(e), string(room))
	}
	for i := range room {
		room[i] = '#'
	}
	if !slices.Equal(l, want) || l[1].Text != "bAc" || l[0].Text != "a" || l[2].Num != "1" || l[2].Text != "px" {
		t.Error(l)
	}
	copy(room, kept)
	again, _, _ := Tokens(b)
	if !slices.Equal(again, want) {
		t.Error(again)
	}
}
