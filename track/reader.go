package track

import (
	"iter"

	"parterre/api"
	"parterre/ident"
	"parterre/value"
)

// wrong is why words are not what was to be read, and the place of the word that is told.
type wrong struct {
	at int
	e  api.Errno
}

// reader goes through words.
type reader struct {
	words []api.Token
	at    int // of the next word
	count int // of the pieces so far, those of Inners too
}

// read tells what a reader reads from a place on, and the place behind it, or what is wrong, and where.
func read[T any](l []api.Token, at int, what func(*reader) T) (result T, next int, e api.Errno) {
	defer func() {
		switch left := recover().(type) {
		case nil:
		case wrong:
			next, e = left.at, left.e
		default:
			panic(left)
		}
	}()
	r := reader{words: l, at: at}
	result = what(&r)
	return result, r.at, api.OK
}

// fail leaves the piece that is being read, for the next word.
func (r *reader) fail(e api.Errno) { panic(wrong{r.at, e}) }

// word tells the next word; a place that is none has the end.
func (r *reader) word() api.Token {
	if r.at < 0 || r.at >= len(r.words) {
		return api.Token{Kind: api.TokEnd}
	}
	return r.words[r.at]
}

func (r *reader) isSign(s string) bool { return value.Sign(r.words, r.at, s) }

func (r *reader) isFunc(name string) bool {
	word := r.word()
	return word.Kind == api.TokFunc && ident.Is(word.Text, name)
}

// sign goes behind a sign that must be there.
func (r *reader) sign(s string) {
	if !r.isSign(s) {
		r.fail(api.ErrSyntax)
	}
	r.at++
}

func (r *reader) names() []string {
	var list []string
	r.sign("[")
	for !r.isSign("]") {
		word := r.word()
		if word.Kind != api.TokIdent || !ident.Custom(word.Text) {
			r.fail(api.ErrSyntax)
		}
		if len(list) == api.MaxNames {
			r.fail(api.ErrLimit)
		}
		list = append(list, word.Text)
		r.at++
	}
	r.at++
	return list
}

// length reads one of value's sizes.
func (r *reader) length(allow int) api.Len {
	v, next, e := value.Read(r.words, r.at, allow)
	if e != api.OK {
		r.fail(e)
	}
	r.at = next
	return v
}

func (r *reader) size() api.Track {
	switch {
	case r.isFunc("minmax"):
		return r.minmax()
	case r.isFunc("fit-content"):
		return r.fitContent()
	}
	return plain(r.length(greatest))
}

func (r *reader) minmax() api.Track {
	r.at++
	least := r.length(breadth)
	r.sign(",")
	most := r.length(greatest)
	r.sign(")")
	return api.Track{Min: least, Max: most}
}

func (r *reader) fitContent() api.Track {
	r.at++
	limit := r.length(definite)
	r.sign(")")
	return fitting(limit)
}

// beginsSize tells whether a size begins with the next word.
func (r *reader) beginsSize() bool {
	_, _, e := value.Read(r.words, r.at, greatest)
	return e == api.OK || r.isFunc("minmax") || r.isFunc("fit-content")
}

// failNoSize leaves for the next word, with which no size begins: value knows why.
func (r *reader) failNoSize() {
	_, _, e := value.Read(r.words, r.at, greatest)
	r.fail(e)
}

func (r *reader) sizes() []api.Track {
	var list []api.Track
	for len(list) == 0 || r.beginsSize() {
		if len(list) == api.MaxPieces {
			r.fail(api.ErrLimit)
		}
		list = append(list, r.size())
	}
	return list
}

func (r *reader) template() []api.Piece {
	switch which, next := value.Keyword(r.words, r.at, []string{"none", "subgrid", "masonry"}); which {
	case 0:
		r.at = next
		return nil
	case 1, 2:
		r.fail(api.ErrFeature)
	}
	from := r.at
	list := r.list(true)
	if fillsBadly(list) {
		panic(wrong{from, api.ErrSyntax})
	}
	return list
}

// list reads pieces, and asks whether they may stand together.
func (r *reader) list(repeats bool) []api.Piece {
	var list []api.Piece
	for from, piece := range r.pieces(repeats) {
		if !follows(piece, list) {
			panic(wrong{from, api.ErrSyntax})
		}
		if !isRepeat(piece) {
			r.add(from)
		}
		list = append(list, piece)
	}
	if !hasTracks(list) {
		r.failNoSize()
	}
	return list
}

// pieces yields pieces, each with the place of its first word, up to the first word with which none begins.
func (r *reader) pieces(repeats bool) iter.Seq2[int, api.Piece] {
	return func(yield func(int, api.Piece) bool) {
		for {
			from, piece := r.at, api.Piece{}
			switch {
			case r.isSign("["):
				piece = api.Piece{Kind: api.PieceNames, Names: r.names()}
			case r.beginsSize():
				piece = api.Piece{Kind: api.PieceTrack, Track: r.size()}
			case repeats && r.isFunc("repeat"):
				piece = r.repeat()
			default:
				return
			}
			empty := piece.Kind == api.PieceNames && len(piece.Names) == 0
			if !empty && !yield(from, piece) {
				return
			}
		}
	}
}

// add counts a piece that begins at a place.
func (r *reader) add(from int) {
	if r.count == api.MaxPieces {
		panic(wrong{from, api.ErrLimit})
	}
	r.count++
}

func (r *reader) repeat() api.Piece {
	r.add(r.at) // here, since what stands within is counted behind it
	r.at++
	piece := r.times()
	r.sign(",")
	piece.Inner = r.list(false)
	if !r.isSign(")") {
		r.failNoSize()
	}
	r.at++
	return piece
}

// times reads how often a repeat is taken, and tells the repeat without what is within.
func (r *reader) times() api.Piece {
	switch which, next := value.Keyword(r.words, r.at, []string{"auto-fill", "auto-fit"}); which {
	case 0:
		r.at = next
		return api.Piece{Kind: api.PieceFill}
	case 1:
		r.at = next
		return api.Piece{Kind: api.PieceFit}
	}
	count, next, e := value.Integer(r.words, r.at)
	switch {
	case e != api.OK:
		r.fail(e)
	case count < 1:
		r.fail(api.ErrSyntax)
	case count > api.MaxRepeat:
		r.fail(api.ErrLimit)
	}
	r.at = next
	return api.Piece{Kind: api.PieceRepeat, Count: count}
}
