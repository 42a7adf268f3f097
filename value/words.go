package value

import (
	"slices"
	"strings"

	"parterre/api"
	"parterre/ident"
	"parterre/number"
)

// Read reads a size.
func Read(l []api.Token, at, allow int) (api.Len, int, api.Errno) {
	v, e := size(wordAt(l, at), allow)
	if e != api.OK {
		return api.Len{}, at, e
	}
	return v, at + 1, api.OK
}

// Integer reads a whole number.
func Integer(l []api.Token, at int) (int, int, api.Errno) {
	word := wordAt(l, at)
	if word.Kind != api.TokNum || strings.ContainsAny(word.Num, ".eE") {
		return 0, at, api.ErrSyntax
	}
	n, e := scaled(word.Num, 1)
	if e != api.OK {
		return 0, at, e
	}
	return n, at + 1, api.OK
}

// Keyword reads one of some keywords.
func Keyword(l []api.Token, at int, words []string) (int, int) {
	word := wordAt(l, at)
	which := slices.IndexFunc(words, func(s string) bool {
		return word.Kind == api.TokIdent && ident.Is(word.Text, s)
	})
	if which < 0 {
		return -1, at
	}
	return which, at + 1
}

// Sign tells whether a sign stands somewhere.
func Sign(l []api.Token, at int, s string) bool {
	word := wordAt(l, at)
	return word.Kind == api.TokSign && word.Text == s
}

// wordAt tells the word at a place; a place that is none has the end.
func wordAt(l []api.Token, at int) api.Token {
	if at < 0 || at >= len(l) {
		return api.Token{Kind: api.TokEnd}
	}
	return l[at]
}

// asker tells a closure that asks whether a word is of a kind and is one of some texts, which have small letters.
func asker(word api.Token) func(kind int, texts ...string) bool {
	text := ident.Lower(word.Text)
	return func(kind int, texts ...string) bool {
		return word.Kind == kind && slices.Contains(texts, text)
	}
}

// size tells the size that a word is.
func size(word api.Token, allow int) (api.Len, api.Errno) {
	is := asker(word)
	switch {
	case isForeign(is):
		return api.Len{}, api.ErrFeature
	case is(api.TokDim, "px"):
		return measured(word.Num, api.LenPx, api.Unit, allow)
	case word.Kind == api.TokNum && isNought(word.Num):
		return api.Len{Kind: api.LenPx}, api.OK
	case word.Kind == api.TokPct && allow&Pct != 0:
		return measured(word.Num, api.LenPct, api.Mille, allow)
	case is(api.TokDim, "fr") && allow&Flex != 0:
		return measured(word.Num, api.LenFr, api.Mille, allow)
	}
	for _, k := range keywords {
		if is(api.TokIdent, k.text) && Good(k.size, allow) {
			return k.size, api.OK
		}
	}
	return api.Len{}, api.ErrSyntax
}

// isForeign tells whether the word that is asked means something in CSS that is not built here.
func isForeign(is func(kind int, texts ...string) bool) bool {
	return is(api.TokDim, "em", "rem", "ex", "ch", "vw", "vh", "vmin", "vmax", "cm", "mm", "q", "in", "pc", "pt") ||
		is(api.TokFunc, "calc", "min", "max", "clamp", "env", "var") ||
		is(api.TokIdent, "inherit", "initial", "unset", "revert")
}

// isNought tells whether a number is 0, which needs no unit, whatever its exponent.
func isNought(num string) bool {
	if power := strings.IndexAny(num, "eE"); power >= 0 {
		num = num[:power]
	}
	return strings.Trim(num, "+-.0") == ""
}

// scaled tells a number's value; a word whose number has none is not one of those that may be read, so nothing but ErrOver is handed on.
func scaled(num string, scale int) (int, api.Errno) {
	n, e := number.Value(num, scale)
	if e != api.OK && e != api.ErrOver {
		return 0, api.ErrSyntax
	}
	return n, e
}

// measured tells a size of a number's text.
func measured(num string, kind, scale, allow int) (api.Len, api.Errno) {
	n, e := scaled(num, scale)
	v := api.Len{Kind: kind, N: n}
	mayBeBelow := Good(api.Len{Kind: kind, N: -1}, allow)
	switch {
	case e != api.OK:
		return api.Len{}, e
	case Good(v, allow):
		return v, api.OK
	case n < 0 && !mayBeBelow:
		return api.Len{}, api.ErrSyntax
	}
	return api.Len{}, api.ErrOver
}
