package line

import (
	"parterre/api"
	"parterre/ident"
	"parterre/value"
)

// parts is what the words of a line say.
type parts struct {
	next      int // the place behind the words
	number    int
	numberAt  int // the number's place
	name      string
	hasNumber bool
	hasSpan   bool
}

// Read reads a line.
func Read(l []api.Token, at int) (api.Line, int, api.Errno) {
	switch which, next := value.Keyword(l, at, []string{"auto", "inherit", "initial", "unset", "revert"}); {
	case which == 0:
		return auto(), next, api.OK
	case which > 0:
		return api.Line{}, at, api.ErrFeature
	}
	p := take(l, at)
	if place, e := p.fault(); e != api.OK {
		return api.Line{}, place, e
	}
	return p.line(), p.next, api.OK
}

// take goes through as many words as may belong to one line.
func take(l []api.Token, at int) parts {
	p := parts{next: at}
	span := func() bool {
		which, next := value.Keyword(l, p.next, []string{"span"})
		if which < 0 || p.hasSpan {
			return false
		}
		p.hasSpan, p.next = true, next
		return true
	}
	number := func() bool {
		n, ok := wholeNumber(l, p.next)
		if !ok || p.hasNumber {
			return false
		}
		p.hasNumber, p.number, p.numberAt = true, n, p.next
		p.next++
		return true
	}
	name := func() bool {
		s, ok := nameAt(l, p.next)
		if !ok || p.name != "" {
			return false
		}
		p.name = s
		p.next++
		return true
	}
words:
	for {
		first := p.next == at
		switch {
		case span():
			if !first {
				break words // behind others it is the last word
			}
		case !number() && !name():
			break words
		}
	}
	return p
}

// wholeNumber tells the whole number at a place; one that value finds too great to tell is told as one beyond the limit.
func wholeNumber(l []api.Token, at int) (int, bool) {
	n, _, e := value.Integer(l, at)
	if e == api.ErrOver {
		return api.MaxLine + 1, true
	}
	return n, e == api.OK
}

// nameAt tells the name at a place.
func nameAt(l []api.Token, at int) (string, bool) {
	if at < 0 || at >= len(l) || l[at].Kind != api.TokIdent || !ident.Custom(l[at].Text) {
		return "", false
	}
	return l[at].Text, true
}

// fault tells why the words are no line, and the place of the word that is wrong.
func (p parts) fault() (int, api.Errno) {
	switch {
	case !p.hasNumber && p.name == "":
		return p.next, api.ErrSyntax
	case !p.hasNumber:
		return 0, api.OK
	case p.number < -api.MaxLine || p.number > api.MaxLine:
		return p.numberAt, api.ErrLimit
	case p.number == 0 || p.hasSpan && p.number < 1:
		return p.numberAt, api.ErrSyntax
	}
	return 0, api.OK
}

// line tells the line that the words are.
func (p parts) line() api.Line {
	v := api.Line{Kind: api.LineName, N: p.number, Name: p.name}
	switch {
	case p.hasSpan && !p.hasNumber:
		v.Kind, v.N = api.LineSpan, 1
	case p.hasSpan:
		v.Kind = api.LineSpan
	case p.hasNumber:
		v.Kind = api.LineNum
	}
	return v
}

// Pair reads a line, and another one, if it is there.
func Pair(l []api.Token, at int) (start, end api.Line, next int, e api.Errno) {
	list, next, e := several(l, at, 2)
	if e != api.OK {
		return api.Line{}, api.Line{}, next, e
	}
	if len(list) == 1 {
		return list[0], opposite(list[0]), next, api.OK
	}
	return list[0], list[1], next, api.OK
}

// Four reads one to four lines.
func Four(l []api.Token, at int) ([4]api.Line, int, api.Errno) {
	list, next, e := several(l, at, 4)
	if e != api.OK {
		return [4]api.Line{}, next, e
	}
	var four [4]api.Line
	copy(four[:], list)
	for i := len(list); i < len(four); i++ {
		four[i] = opposite(four[max(i-2, 0)]) // an end's start is two ahead; the second start goes by the first one
	}
	return four, next, api.OK
}

// several reads one to so many lines with / between.
func several(l []api.Token, at, most int) ([]api.Line, int, api.Errno) {
	var list []api.Line
	for {
		v, next, e := Read(l, at)
		if e != api.OK {
			return nil, next, e
		}
		list = append(list, v)
		if len(list) == most || !value.Sign(l, next, "/") {
			return list, next, api.OK
		}
		at = next + 1
	}
}
