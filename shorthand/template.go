package shorthand

import (
	"slices"

	"parterre/api"
	"parterre/area"
	"parterre/track"
	"parterre/value"
)

// Template reads rows, columns and areas.
func Template(l []api.Token, at int) (rows, cols []api.Piece, areas [][]string, next int, e api.Errno) {
	if isPicture(l, at) {
		return readPicture(l, at)
	}
	rows, cols, next, e = readBoth(l, at)
	return rows, cols, nil, next, e
}

// isPicture tells whether a string stands there, or behind names that stand there.
func isPicture(l []api.Token, at int) bool {
	for value.Sign(l, at, "[") {
		_, next, e := track.Names(l, at)
		if e != api.OK {
			return false
		}
		at = next
	}
	return isString(l, at)
}

func isString(l []api.Token, at int) bool {
	return 0 <= at && at < len(l) && l[at].Kind == api.TokString
}

// readBoth reads rows and columns, with / between.
func readBoth(l []api.Token, at int) (rows, cols []api.Piece, next int, e api.Errno) {
	rows, next, e = track.Template(l, at)
	switch {
	case e != api.OK:
		return nil, nil, next, e
	case !value.Sign(l, next, "/"):
		if len(rows) == 0 {
			return nil, nil, next, api.OK // none alone
		}
		return nil, nil, next, api.ErrSyntax
	}
	cols, next, e = track.Template(l, next+1)
	if e != api.OK {
		return nil, nil, next, e
	}
	return rows, cols, next, api.OK
}

// picture is the lines of a picture, as far as they have been read.
type picture struct {
	words   []api.Token
	at      int // of the next word
	rows    []api.Piece
	strings []int // their places
}

// readPicture reads a picture, and columns behind it.
func readPicture(l []api.Token, at int) (rows, cols []api.Piece, areas [][]string, next int, e api.Errno) {
	p := picture{words: l, at: at}
	if e := p.lines(); e != api.OK {
		return nil, nil, nil, p.at, e
	}
	areas, next, e = p.areas()
	if e != api.OK {
		return nil, nil, nil, next, e
	}
	if !value.Sign(l, next, "/") {
		return p.rows, nil, areas, next, api.OK
	}
	cols, next, e = plainColumns(l, next+1)
	if e != api.OK {
		return nil, nil, nil, next, e
	}
	return p.rows, cols, areas, next, api.OK
}

// lines reads all lines, and the names behind them; with an error it stops at the word that is wrong.
func (p *picture) lines() api.Errno {
	for {
		if e := p.names(); e != api.OK {
			return e
		}
		if !isString(p.words, p.at) {
			return api.OK
		}
		p.strings = append(p.strings, p.at)
		p.at++
		if e := p.size(); e != api.OK {
			return e
		}
	}
}

// names reads the names of one line, as often as they stand there.
func (p *picture) names() api.Errno {
	var all []string
	for value.Sign(p.words, p.at, "[") {
		list, next, e := track.Names(p.words, p.at)
		switch {
		case e != api.OK:
			p.at = next
			return e
		case len(all)+len(list) > api.MaxNames:
			return api.ErrLimit
		}
		all = append(all, list...)
		p.at = next
	}
	if len(all) > 0 {
		p.rows = append(p.rows, api.Piece{Kind: api.PieceNames, Names: all})
	}
	return api.OK
}

// size reads the size of a row, which is auto, if none begins there.
func (p *picture) size() api.Errno {
	size, next, e := track.Size(p.words, p.at)
	if e != api.OK && next > p.at { // the first word is right: a size has begun
		p.at = next
		return e
	}
	if e != api.OK {
		auto := api.Len{Kind: api.LenAuto}
		size = api.Track{Min: auto, Max: auto}
	}
	p.rows = append(p.rows, api.Piece{Kind: api.PieceTrack, Track: size})
	p.at = next
	return api.OK
}

// areas reads the strings of all lines once more, as if nothing stood between them.
func (p *picture) areas() ([][]string, int, api.Errno) {
	texts := make([]api.Token, len(p.strings))
	for i := range len(texts) {
		texts[i] = p.words[p.strings[i]]
	}
	rows, which, e := area.Read(texts, 0)
	if e != api.OK {
		return nil, p.strings[which], e
	}
	return rows, p.at, api.OK
}

// plainColumns reads columns whose number can be seen, as that of areas' cells can.
func plainColumns(l []api.Token, at int) ([]api.Piece, int, api.Errno) {
	cols, next, e := track.Template(l, at)
	switch {
	case e != api.OK:
		return nil, next, e
	case len(cols) == 0 || slices.ContainsFunc(cols, isRepeat):
		return nil, at, api.ErrSyntax
	}
	return cols, next, api.OK
}

func isRepeat(p api.Piece) bool { return p.Kind != api.PieceNames && p.Kind != api.PieceTrack }
