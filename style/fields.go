package style

import (
	"iter"
	"slices"
	"strings"

	"parterre/api"
	"parterre/area"
	"parterre/box"
	"parterre/line"
	"parterre/number"
	"parterre/shorthand"
	"parterre/track"
	"parterre/value"
)

// What the sizes of each kind may be.
const (
	ofGap    = value.Pct
	ofSize   = value.Pct | value.Auto | value.Cont
	ofMost   = value.Pct | value.Cont | value.None
	ofMargin = value.Pct | value.Neg | value.Auto
)

// reader reads words into parts of a style, which are as they may be only where it tells no error.
type reader func(l []api.Token, at int) (int, api.Errno)

// field is what a property sets: what reads it, whether it may be as it is, and its text.
type field struct {
	read reader
	good func() bool
	text func() string
}

// properties yields the properties' names, in small letters, each with what tells its field of a style.
func properties() iter.Seq2[string, func(*api.Style) field] {
	return func(yield func(string, func(*api.Style) field) bool) {
		_ = yield("grid-template-rows", func(s *api.Style) field { return template(&s.Rows) }) &&
			yield("grid-template-columns", func(s *api.Style) field { return template(&s.Cols) }) &&
			yield("grid-template-areas", func(s *api.Style) field { return fieldOf(&s.Areas, area.Read, area.Good, area.Text) }) &&
			yield("grid-auto-rows", func(s *api.Style) field { return sizes(&s.AutoRows) }) &&
			yield("grid-auto-columns", func(s *api.Style) field { return sizes(&s.AutoCols) }) &&
			yield("grid-auto-flow", func(s *api.Style) field { return flow(&s.Column, &s.Dense) }) &&
			yield("row-gap", func(s *api.Style) field { return size(&s.RowGap, ofGap) }) &&
			yield("column-gap", func(s *api.Style) field { return size(&s.ColGap, ofGap) }) &&
			yield("justify-content", func(s *api.Style) field { return alignment(&s.JustifyContent, box.Content) }) &&
			yield("align-content", func(s *api.Style) field { return alignment(&s.AlignContent, box.Content) }) &&
			yield("justify-items", func(s *api.Style) field { return alignment(&s.JustifyItems, box.Items) }) &&
			yield("align-items", func(s *api.Style) field { return alignment(&s.AlignItems, box.Items) }) &&
			yield("justify-self", func(s *api.Style) field { return alignment(&s.JustifySelf, box.Self) }) &&
			yield("align-self", func(s *api.Style) field { return alignment(&s.AlignSelf, box.Self) }) &&
			yield("grid-row-start", func(s *api.Style) field { return lineAt(&s.RowStart) }) &&
			yield("grid-column-start", func(s *api.Style) field { return lineAt(&s.ColStart) }) &&
			yield("grid-row-end", func(s *api.Style) field { return lineAt(&s.RowEnd) }) &&
			yield("grid-column-end", func(s *api.Style) field { return lineAt(&s.ColEnd) }) &&
			yield("order", func(s *api.Style) field { return fieldOf(&s.Order, box.Order, isOrder, orderText) }) &&
			yield("width", func(s *api.Style) field { return size(&s.Width, ofSize) }) &&
			yield("height", func(s *api.Style) field { return size(&s.Height, ofSize) }) &&
			yield("min-width", func(s *api.Style) field { return size(&s.MinWidth, ofSize) }) &&
			yield("min-height", func(s *api.Style) field { return size(&s.MinHeight, ofSize) }) &&
			yield("max-width", func(s *api.Style) field { return size(&s.MaxWidth, ofMost) }) &&
			yield("max-height", func(s *api.Style) field { return size(&s.MaxHeight, ofMost) }) &&
			yield("margin-top", func(s *api.Style) field { return size(&s.Margin[0], ofMargin) }) &&
			yield("margin-right", func(s *api.Style) field { return size(&s.Margin[1], ofMargin) }) &&
			yield("margin-bottom", func(s *api.Style) field { return size(&s.Margin[2], ofMargin) }) &&
			yield("margin-left", func(s *api.Style) field { return size(&s.Margin[3], ofMargin) }) &&
			yield("content", func(s *api.Style) field { return fieldOf(&s.Content, box.Words, box.WordsGood, box.WordsText) })
	}
}

// fieldOf tells the field of one part of a style, of the calls that read such a part, ask whether it may be, and write it.
func fieldOf[T any](part *T, read func([]api.Token, int) (T, int, api.Errno), good func(T) bool, text func(T) string) field {
	return field{
		read: func(l []api.Token, at int) (next int, e api.Errno) {
			*part, next, e = read(l, at)
			return next, e
		},
		good: func() bool { return good(*part) },
		text: func() string { return text(*part) },
	}
}

func template(part *[]api.Piece) field {
	return fieldOf(part, track.Template, track.Good, track.Text)
}

func sizes(part *[]api.Track) field { return fieldOf(part, track.Sizes, areSizes, sizesText) }

func areSizes(list []api.Track) bool {
	return 1 <= len(list) && len(list) <= api.MaxPieces &&
		!slices.ContainsFunc(list, func(t api.Track) bool { return !track.Right(t) })
}

func sizesText(list []api.Track) string {
	texts := make([]string, len(list))
	for i, t := range list {
		texts[i] = track.SizeText(t)
	}
	return strings.Join(texts, " ")
}

// flow tells the field of two parts, each of which may be whatever it is.
func flow(column, dense *bool) field {
	return field{
		read: func(l []api.Token, at int) (next int, e api.Errno) {
			*column, *dense, next, e = shorthand.Flow(l, at)
			return next, e
		},
		good: func() bool { return true },
		text: func() string { return shorthand.FlowText(*column, *dense) },
	}
}

func size(part *api.Len, allow int) field {
	read := func(l []api.Token, at int) (api.Len, int, api.Errno) { return value.Read(l, at, allow) }
	good := func(v api.Len) bool { return value.Good(v, allow) }
	return fieldOf(part, read, good, value.Text)
}

func alignment(part *int, set int) field {
	read := func(l []api.Token, at int) (int, int, api.Errno) { return box.Align(l, at, set) }
	good := func(k int) bool { return box.AlignGood(k, set) }
	return fieldOf(part, read, good, box.AlignText)
}

func lineAt(part *api.Line) field { return fieldOf(part, line.Read, line.Good, line.Text) }

func isOrder(n int) bool { return -api.MaxOrder <= n && n <= api.MaxOrder }

func orderText(n int) string { return number.Text(n, 1) }
