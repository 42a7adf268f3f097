package area

import (
	"iter"
	"slices"

	"parterre/api"
	"parterre/token"
	"parterre/value"
)

// Cells tells a row's cells.
func Cells(s string) ([]string, bool) {
	var cells []string
	for s != "" {
		name, points, blanks := run(s, inName), run(s, isPoint), run(s, isBlank)
		switch {
		case name > 0:
			cells = append(cells, s[:name])
		case points > 0:
			cells = append(cells, "")
		case blanks == 0:
			return nil, false
		}
		s = s[name+points+blanks:] // no byte is of two kinds: two of these are 0
	}
	return cells, true
}

// run tells how many bytes at the beginning of s are of a kind.
func run(s string, is func(c byte) bool) int {
	length := 0
	for length < len(s) && is(s[length]) {
		length++
	}
	return length
}

func inName(c byte) bool { return token.Letter(c) || '0' <= c && c <= '9' || c == '-' }

func isPoint(c byte) bool { return c == '.' }

func isBlank(c byte) bool { return c == ' ' || c == '\t' || c == '\n' || c == '\r' || c == '\f' }

// Read reads rows.
func Read(l []api.Token, at int) ([][]string, int, api.Errno) {
	switch which, next := value.Keyword(l, at, []string{"none", "inherit", "initial", "unset", "revert"}); {
	case which == 0:
		return nil, next, api.OK
	case which > 0:
		return nil, at, api.ErrFeature
	}
	var rows [][]string
	for place, text := range texts(l, at) {
		cells, e := nextRow(rows, text)
		if e != api.OK {
			return nil, place, e
		}
		rows = append(rows, cells)
	}
	if len(rows) == 0 || !allFilled(rows) {
		return nil, at, api.ErrSyntax
	}
	return rows, at + len(rows), api.OK
}

// texts yields the strings that stand at a place and behind it, up to another word, each with its place.
func texts(l []api.Token, at int) iter.Seq2[int, string] {
	return func(yield func(int, string) bool) {
		for i := at; 0 <= i && i < len(l) && l[i].Kind == api.TokString; i++ {
			if !yield(i, l[i].Text) {
				return
			}
		}
	}
}

// nextRow tells the cells of a string that stands behind rows.
func nextRow(rows [][]string, text string) ([]string, api.Errno) {
	cells, ok := Cells(text)
	isLong := func(name string) bool { return len(name) > api.MaxName }
	switch {
	case !ok:
		return nil, api.ErrSyntax
	case len(rows) == api.MaxAreas || len(cells) > api.MaxAreas || slices.ContainsFunc(cells, isLong):
		return nil, api.ErrLimit
	case len(cells) == 0 || len(rows) > 0 && len(cells) != len(rows[0]):
		return nil, api.ErrSyntax
	}
	return cells, api.OK
}
