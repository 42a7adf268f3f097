package token

import (
	"strings"

	"parterre/api"
	"parterre/number"
)

const (
	opening = "/*" // of a comment
	closing = "*/"
	signs   = ",/:;{}[]()"
)

// wrong is why a word is none, and where it begins.
type wrong struct {
	at int
	e  api.Errno
}

// reader goes through a text word by word.
type reader struct {
	text string
	at   int // of the next byte
	from int // of the first byte of the word that is being read
}

// read tells all words of a text, or what is wrong with the first one that is.
func read(text string) (list []api.Token, fault wrong) {
	defer func() {
		switch left := recover().(type) {
		case nil:
		case wrong:
			list, fault = nil, left
		default:
			panic(left)
		}
	}()
	r := reader{text: text}
	for r.next() {
		word := r.word()
		word.At = r.from
		list = append(list, word)
	}
	return list, wrong{}
}

// fail leaves the word that is being read.
func (r *reader) fail(e api.Errno) { panic(wrong{r.from, e}) }

// next goes on to the next word, and tells whether there is one.
func (r *reader) next() bool {
	for r.at < len(r.text) {
		r.from = r.at
		switch {
		case isBlank(r.text[r.at]):
			r.at++
		case strings.HasPrefix(r.text[r.at:], opening):
			r.comment()
		default:
			return true
		}
	}
	return false
}

func (r *reader) comment() {
	r.at += len(opening)
	length := strings.Index(r.text[r.at:], closing)
	if length < 0 {
		r.fail(api.ErrToken)
	}
	r.at += length + len(closing)
}

// word tells the word that begins here, but for its place.
func (r *reader) word() api.Token {
	rest := r.text[r.at:]
	digits := number.Scan(rest)
	switch {
	case digits > 0:
		return r.number(digits)
	case beginsName(r.text, r.at):
		return r.name()
	case rest[0] == '"' || rest[0] == '\'':
		return r.quoted()
	case strings.IndexByte(signs, rest[0]) < 0:
		r.fail(api.ErrToken)
	}
	r.at++
	return api.Token{Kind: api.TokSign, Text: rest[:1]}
}

// number tells the word that begins with a number of so many bytes.
func (r *reader) number(length int) api.Token {
	word := api.Token{Kind: api.TokNum, Num: r.text[r.at : r.at+length]}
	r.at += length
	switch {
	case r.take('%'):
		word.Kind = api.TokPct
	case beginsName(r.text, r.at):
		word.Kind, word.Text = api.TokDim, r.identifier()
	}
	return word
}

func (r *reader) name() api.Token {
	word := api.Token{Kind: api.TokIdent, Text: r.identifier()}
	if r.take('(') {
		word.Kind = api.TokFunc
	}
	return word
}

// take goes behind a byte, if it stands here.
func (r *reader) take(c byte) bool {
	found := r.at < len(r.text) && r.text[r.at] == c
	if found {
		r.at++
	}
	return found
}

// beginsName tells whether an identifier begins at a place.
func beginsName(s string, at int) bool {
	if strings.HasPrefix(s[at:], "--") {
		return true
	}
	if strings.HasPrefix(s[at:], "-") {
		at++
	}
	_, escape := Hex(s, at)
	return escape > 0 || at < len(s) && Letter(s[at])
}

// identifier tells what the identifier means that begins here.
func (r *reader) identifier() string {
	return r.meaning(api.MaxName, func() (string, int) {
		meaning, length := Hex(r.text, r.at)
		if length == 0 && r.at < len(r.text) && inName(r.text[r.at]) {
			return r.text[r.at : r.at+1], 1
		}
		return meaning, length
	})
}

func inName(c byte) bool { return Letter(c) || isDigit(c) || c == '-' }

// quoted tells the string that begins here.
func (r *reader) quoted() api.Token {
	quote := r.text[r.at]
	r.at++
	text := r.meaning(api.MaxString, func() (string, int) {
		switch {
		case r.at == len(r.text) || isLineEnd(r.text[r.at]):
			r.fail(api.ErrToken)
		case r.text[r.at] == quote:
			return "", 0
		case r.text[r.at] == '\\':
			return r.escape()
		}
		return r.text[r.at : r.at+1], 1
	})
	r.at++
	return api.Token{Kind: api.TokString, Text: text}
}

// escape tells what \ and what stands behind it mean in a string, and how many bytes they have.
func (r *reader) escape() (string, int) {
	rest := r.text[r.at+1:]
	if rest == "" {
		r.fail(api.ErrToken)
	}
	length := 1
	switch rest[0] {
	case '\r':
		if strings.HasPrefix(rest, "\r\n") {
			length++ // the two are one line's end
		}
		fallthrough
	case '\n', '\f':
		return "", length + 1
	}
	return Hex(r.text, r.at)
}

// meaning puts together what the parts mean that a closure tells, each with how many bytes it has, until one has none; and goes behind them.
func (r *reader) meaning(limit int, part func() (string, int)) string {
	var all strings.Builder
	for {
		meaning, length := part()
		if length == 0 {
			break
		}
		// An escape of the number 0 means another character: this one is the byte itself.
		if meaning == "\x00" {
			r.fail(api.ErrToken)
		}
		all.WriteString(meaning)
		r.at += length
	}
	// The limit is asked last: what is wrong with a word beside its length goes ahead of that.
	if all.Len() > limit {
		r.fail(api.ErrLimit)
	}
	return all.String()
}
