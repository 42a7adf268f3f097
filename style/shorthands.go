package style

import (
	"iter"

	"parterre/api"
	"parterre/box"
	"parterre/line"
	"parterre/shorthand"
)

// readerOf tells what reads the property or the shorthand of a name in small letters into a style, or what is wrong with the name.
func readerOf(s *api.Style, name string) (reader, api.Errno) {
	for property, of := range properties() {
		if property == name {
			return of(s).read, api.OK
		}
	}
	for several, of := range shorthands() {
		if several == name {
			return of(s), api.OK
		}
	}
	if isForeign(name) {
		return nil, api.ErrFeature
	}
	return nil, api.ErrName
}

// isForeign tells whether a name means something in CSS that is not built here.
func isForeign(name string) bool {
	switch name {
	case "display", "position", "float", "clear", "aspect-ratio", "padding", "border", "box-sizing", "overflow",
		"grid", "inset", "transform", "writing-mode", "direction":
		return true
	}
	return false
}

// shorthands yields the shorthands' names, in small letters, each with what tells a style's reader of it.
func shorthands() iter.Seq2[string, func(*api.Style) reader] {
	return func(yield func(string, func(*api.Style) reader) bool) {
		_ = yield("grid-template", templates) &&
			yield("gap", func(s *api.Style) reader { return gaps(&s.RowGap, &s.ColGap) }) &&
			yield("place-content", func(s *api.Style) reader { return alignments(&s.AlignContent, &s.JustifyContent, box.Content) }) &&
			yield("place-items", func(s *api.Style) reader { return alignments(&s.AlignItems, &s.JustifyItems, box.Items) }) &&
			yield("place-self", func(s *api.Style) reader { return alignments(&s.AlignSelf, &s.JustifySelf, box.Self) }) &&
			yield("grid-row", func(s *api.Style) reader { return pair(&s.RowStart, &s.RowEnd) }) &&
			yield("grid-column", func(s *api.Style) reader { return pair(&s.ColStart, &s.ColEnd) }) &&
			yield("grid-area", func(s *api.Style) reader { return four(&s.RowStart, &s.ColStart, &s.RowEnd, &s.ColEnd) }) &&
			yield("margin", func(s *api.Style) reader { return margins(&s.Margin) })
	}
}

func templates(s *api.Style) reader {
	return func(l []api.Token, at int) (next int, e api.Errno) {
		s.Rows, s.Cols, s.Areas, next, e = shorthand.Template(l, at)
		return next, e
	}
}

func gaps(row, col *api.Len) reader {
	return func(l []api.Token, at int) (next int, e api.Errno) {
		*row, *col, next, e = box.Gap(l, at)
		return next, e
	}
}

func alignments(align, justify *int, set int) reader {
	return func(l []api.Token, at int) (next int, e api.Errno) {
		*align, *justify, next, e = shorthand.Place(l, at, set)
		return next, e
	}
}

func pair(start, end *api.Line) reader {
	return func(l []api.Token, at int) (next int, e api.Errno) {
		*start, *end, next, e = line.Pair(l, at)
		return next, e
	}
}

// four tells what reads lines in the order in which line's Four tells them.
func four(parts ...*api.Line) reader {
	return func(l []api.Token, at int) (int, api.Errno) {
		list, next, e := line.Four(l, at)
		for i, part := range parts {
			*part = list[i]
		}
		return next, e
	}
}

func margins(part *[4]api.Len) reader {
	return func(l []api.Token, at int) (next int, e api.Errno) {
		*part, next, e = box.Margin(l, at)
		return next, e
	}
}
