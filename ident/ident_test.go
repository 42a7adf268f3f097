package ident

import (
	"strings"
	"testing"

	"parterre/api"
	"parterre/token"
)

const (
	letters = "_abcdefghijklmnopqrstuvwxyzABCDEFGHIJKLMNOPQRSTUVWXYZ"
	digits  = "0123456789"
	hex     = "0123456789abcdef"
)

func one(c int) string { return string([]byte{byte(c)}) }

func isLetter(c int) bool { return c >= 0x80 || strings.Contains(letters, one(c)) }

// escaped tells a byte as \, its number and a blank, by its digits one by one.
func escaped(c int) string {
	if c < 16 {
		return `\` + hex[c:c+1] + " "
	}
	return `\` + hex[c/16:c/16+1] + hex[c%16:c%16+1] + " "
}

// chance yields numbers below n that are the same in each run.
func chance(seed uint64) func(n int) int {
	return func(n int) int {
		seed = seed*6364136223846793005 + 1442695040888963407
		return int((seed >> 20) % uint64(n))
	}
}

// texts are some of all bytes, most of them of those that are something to names and strings.
func texts(count, most int) []string {
	const likely = "aF019--\\\"' \n\r\f\t\x01\x7f\xc3\xa9(%"
	next := chance(9)
	l := []string{""}
	for range count {
		b := make([]byte, next(most+1))
		for i := range b {
			b[i] = byte(next(256))
			if next(3) > 0 {
				b[i] = likely[next(len(likely))]
			}
		}
		l = append(l, string(b))
	}
	return l
}

func TestExamples(t *testing.T) {
	if s := Write("1a"); s != `\31 a` {
		t.Error(s)
	}
	if s := Write("a b"); s != `a\ b` {
		t.Error(s)
	}
	if s := Quote(`a"b`); s != `"a\"b"` {
		t.Error(s)
	}
}

func TestLower(t *testing.T) { // P4.1
	for s, want := range map[string]string{
		"": "", "a": "a", "AZ": "az", "aBc-D_1": "abc-d_1", "@[`{": "@[`{", "É": "É", "\u212a\u0130": "\u212a\u0130", "\xffA\x00B": "\xffa\x00b",
		strings.Repeat("A", 5000): strings.Repeat("a", 5000),
	} {
		if l := Lower(s); l != want {
			t.Errorf("Lower(%.40q): %.40q", s, l)
		}
	}
	for c := range 256 {
		want := one(c)
		if 'A' <= c && c <= 'Z' {
			want = one(c + 32)
		}
		if l := Lower(one(c)); l != want {
			t.Errorf("Lower(%q): %q", one(c), l)
		}
	}
}

func TestIs(t *testing.T) { // P4.1
	for _, x := range []struct {
		s, keyword string
		want       bool
	}{
		{"span", "span", true}, {"SpAn", "span", true}, {"span", "SPAN", true}, {"", "", true}, {"É", "É", true}, {"a\x00", "A\x00", true},
		{"span", "spa", false}, {"spa", "span", false}, {"span ", "span", false}, {"", "a", false}, {"a", "", false}, {"É", "é", false}, {"\u212a", "k", false}, {"ſ", "s", false}, {"@", "`", false}, {"[", "{", false},
	} {
		if Is(x.s, x.keyword) != x.want {
			t.Errorf("Is(%q, %q): %t", x.s, x.keyword, !x.want)
		}
	}
}

func TestName(t *testing.T) { // P4.2
	for s, want := range map[string]bool{
		"": false, "a": true, " ": true, "-": true, "1": true, "\n": true, "\xff": true, "auto": true,
		"\x00": false, "a\x00": false, "\x00a": false, "a\x00b": false,
		strings.Repeat("a", api.MaxName): true, strings.Repeat("a", api.MaxName+1): false, strings.Repeat("é", api.MaxName/2): true, strings.Repeat("é", api.MaxName/2) + "a": false,
		strings.Repeat("a", api.MaxName-1) + "\x00": false,
	} {
		if Name(s) != want {
			t.Errorf("Name(%q): %t", s, !want)
		}
	}
	for c := range 256 {
		if Name(one(c)) != (c != 0) {
			t.Errorf("Name(%q): %t", one(c), c == 0)
		}
	}
}

func TestCustom(t *testing.T) { // P4.2
	for _, s := range []string{"span", "auto", "initial", "inherit", "unset", "default", "revert"} {
		for _, no := range []string{s, strings.ToUpper(s), strings.ToUpper(s[:1]) + s[1:]} {
			if Custom(no) || !Name(no) {
				t.Error(no)
			}
		}
		for _, yes := range []string{s + "s", s[1:], s[:len(s)-1], " " + s, s + " ", "-" + s} {
			if !Custom(yes) {
				t.Error(yes)
			}
		}
	}
	for s, want := range map[string]bool{
		"": false, "a": true, "1": true, "none": true, "subgrid": true, "revert-layer": true, "a\x00": false, "\x00": false,
		strings.Repeat("a", api.MaxName): true, strings.Repeat("a", api.MaxName+1): false,
	} {
		if Custom(s) != want {
			t.Errorf("Custom(%q): %t", s, !want)
		}
	}
}

func TestWrite(t *testing.T) { // P4.3
	for s, want := range map[string]string{
		"": "", "\x00": "", "a\x00": "", "-": `\-`, "--": "--", "---": "---", "-a": "-a", "a-": "a-", "--1": "--1", "-1": `-\31 `, "-12": `-\31 2`, "12": `\31 2`, "a1": "a1", "a-1": "a-1", "1-": `\31 -`, "1-1": `\31 -1`,
		"- ": `-\ `, " -": `\ -`, `\`: `\\`, `a\b`: `a\\b`, `"`: `\"`, "a(": `a\(`, "\n\r\f\t": `\a \d \c \9 `, "\x1f\x7f": `\1f \7f `, "é-É": "é-É", "-é": "-é", "-\x80": "-\x80", "~": `\~`, " ": `\ `, "aA_zZ": "aA_zZ",
		strings.Repeat("a", api.MaxName): strings.Repeat("a", api.MaxName), strings.Repeat("a", api.MaxName+1): "", strings.Repeat("\x7f", api.MaxName): strings.Repeat(`\7f `, api.MaxName),
	} {
		if w := Write(s); w != want {
			t.Errorf("Write(%q): %q", s, w)
		}
	}
}

func TestWriteOfEachByte(t *testing.T) { // P4.3
	for c := range 256 {
		first, second, behind := `\`+one(c), `\`+one(c), `\`+one(c)
		switch {
		case c == 0:
			if Write(one(c)) != "" || Write("a"+one(c)) != "" || Write("-"+one(c)) != "" {
				t.Error("a byte 0")
			}
			continue
		case isLetter(c):
			first, second, behind = one(c), one(c), one(c)
		case c == '-':
			second, behind = "-", "-"
		case strings.Contains(digits, one(c)):
			first, second, behind = escaped(c), escaped(c), one(c)
		case c < 0x20 || c == 0x7f:
			first, second, behind = escaped(c), escaped(c), escaped(c)
		}
		if w := Write(one(c)); w != first {
			t.Errorf("Write(%q): %q", one(c), w)
		}
		if w := Write("-" + one(c)); w != "-"+second {
			t.Errorf("Write(%q): %q", "-"+one(c), w)
		}
		if w := Write("a" + one(c)); w != "a"+behind {
			t.Errorf("Write(%q): %q", "a"+one(c), w)
		}
		if w := Write("--" + one(c) + "f"); w != "--"+behind+"f" {
			t.Errorf("Write(%q): %q", "--"+one(c)+"f", w)
		}
	}
}

func TestQuote(t *testing.T) { // P4.4
	for s, want := range map[string]string{
		"": `""`, "\x00": "", "a\x00": "", "a b": `"a b"`, `"`: `"\""`, `\`: `"\\"`, `'`: `"'"`, "\n": `"\a "`, "\r\n": `"\d \a "`, "a\n1": `"a\a 1"`, "12": `"12"`, "é\xff": "\"é\xff\"",
		strings.Repeat("a", api.MaxString): `"` + strings.Repeat("a", api.MaxString) + `"`, strings.Repeat("a", api.MaxString+1): "", strings.Repeat("\n", api.MaxString): `"` + strings.Repeat(`\a `, api.MaxString) + `"`,
		strings.Repeat("a", api.MaxString-1) + "\x00": "",
	} {
		if q := Quote(s); q != want {
			t.Errorf("Quote(%.40q): %.40q", s, q)
		}
	}
	for c := range 256 {
		want := `"` + one(c) + `b"`
		switch {
		case c == 0:
			want = ""
		case c == '"' || c == '\\':
			want = `"\` + one(c) + `b"`
		case c < 0x20 || c == 0x7f:
			want = `"` + escaped(c) + `b"`
		}
		if q := Quote(one(c) + "b"); q != want {
			t.Errorf("Quote(%q): %q", one(c)+"b", q)
		}
	}
}

// back tells whether a text is one word of that kind that means s.
func back(t *testing.T, text string, kind int, s string) {
	t.Helper()
	l, _, e := token.Tokens([]byte(text))
	if e != api.OK || len(l) != 2 || l[0] != (api.Token{Kind: kind, Text: s}) || l[1].At != len(text) {
		t.Errorf("%q as %q: %v, %d", s, text, l, int(e))
	}
}

func TestBack(t *testing.T) { // P4.5
	for c := range 256 {
		for _, s := range []string{one(c), "-" + one(c), "a" + one(c), one(c) + "1", one(c) + "F", one(c) + " ", one(c) + "\n", "-" + one(c) + "e"} {
			if c != 0 {
				back(t, Write(s), api.TokIdent, s)
				back(t, Quote(s), api.TokString, s)
			}
		}
	}
	for _, s := range texts(20000, 6) {
		if Name(s) {
			back(t, Write(s), api.TokIdent, s)
		}
		if !strings.Contains(s, "\x00") {
			back(t, Quote(s), api.TokString, s)
		}
	}
	back(t, Write(strings.Repeat("\x1f", api.MaxName)), api.TokIdent, strings.Repeat("\x1f", api.MaxName))
	back(t, Quote(strings.Repeat("\x1f", api.MaxString)), api.TokString, strings.Repeat("\x1f", api.MaxString))
}

func TestApart(t *testing.T) { // P4.6
	names := texts(20000, 3)
	for a := range 256 {
		names = append(names, one(a))
		for b := range 256 {
			names = append(names, one(a)+one(b))
		}
	}
	of, known := map[string]string{}, 0
	for _, s := range names {
		if !Name(s) {
			continue
		}
		known++
		w := Write(s)
		if other, ok := of[w]; ok && other != s {
			t.Fatalf("%q and %q: %q", s, other, w)
		}
		of[w] = s
	}
	if known < 60000 {
		t.Error("few names:", known)
	}
}
