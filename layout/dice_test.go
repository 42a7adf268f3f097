package layout_test

import (
	"math/rand/v2"
	"strconv"
	"strings"
)

// dice yields documents by chance.
type dice struct {
	*rand.Rand
	wild bool // with numbers as great as they may be
}

func (d dice) pick(l ...string) string { return l[d.IntN(len(l))] }

func (d dice) px() string {
	if d.wild && d.IntN(40) == 0 {
		return d.pick("1073741824px", "1073741823px", "536870912px", "805306368px", "1000000000px")
	}
	return d.pick("0px", "3px", "10px", "12.5px", "20px", "33.328125px", "47px", "100px")
}

func (d dice) pct() string {
	if d.wild && d.IntN(20) == 0 {
		return d.pick("1000%", "100000%", "1000000%")
	}
	return d.pick("0%", "10%", "33.333%", "50%", "100%", "130%")
}

func (d dice) fixed() string {
	if d.IntN(3) == 0 {
		return d.pct()
	}
	return d.px()
}

func (d dice) breadth() string {
	switch d.IntN(8) {
	case 0:
		return "min-content"
	case 1:
		return "max-content"
	case 2, 3, 4:
		return d.fixed()
	}
	return "auto"
}

func (d dice) track() string {
	switch d.IntN(8) {
	case 0, 1:
		return d.pick("1fr", "2fr", "0.3fr", "0fr", "1.5fr")
	case 2:
		return "minmax(" + d.breadth() + ", " + d.pick("1fr", "0.5fr", d.breadth(), d.breadth()) + ")"
	case 3:
		return "fit-content(" + d.fixed() + ")"
	}
	return d.breadth()
}

func (d dice) some(most int, one func() string) string {
	var l []string
	for range 1 + d.IntN(most) {
		l = append(l, one())
	}
	return strings.Join(l, " ")
}

func (d dice) template() string {
	switch d.IntN(6) {
	case 0:
		return "[a] " + d.fixed() + " repeat(" + d.pick("auto-fill", "auto-fit", "auto-fit") + ", " + d.some(2, d.fixed) + " [b])"
	case 1:
		return "repeat(" + d.pick("2", "3") + ", [b] " + d.some(2, d.track) + ") [a] " + d.track()
	case 2:
		if d.wild && d.IntN(30) == 0 {
			return d.pick("repeat(10000, 1px 1px)", "repeat(10000, 1px)", "repeat(auto-fill, 0px)")
		}
	}
	return d.some(4, d.track)
}

func (d dice) line() string {
	return d.pick("auto", "auto", "auto", "1", "2", "3", "-1", "-2", "-4", "span 2", "span 3", "a", "b", "span b", "b -1", "span a 2", d.far())
}

func (d dice) far() string {
	if d.wild && d.IntN(30) == 0 {
		return d.pick("9999", "-9999", "span 6000", "span 10000")
	}
	return "4"
}

// container is properties of a grid.
func (d dice) container() (l []string) {
	add := func(often int, s ...string) {
		if d.IntN(often) == 0 {
			l = append(l, strings.Join(s, ": ")+";")
		}
	}
	add(2, "grid-template-columns", d.template())
	add(3, "grid-template-rows", d.template())
	add(6, "grid-template-areas", d.pick(`"a a b" "c . b"`, `"a" "b"`, `". a a"`))
	add(4, "grid-auto-columns", d.some(2, d.track))
	add(4, "grid-auto-rows", d.some(2, d.track))
	add(3, "grid-auto-flow", d.pick("row", "column", "dense", "column dense"))
	add(3, "gap", d.fixed())
	add(5, "gap", d.fixed()+" "+d.fixed())
	add(3, "place-content", d.pick("normal", "start", "end", "center", "stretch", "space-between", "space-around", "space-evenly"))
	add(3, "place-items", d.pick("normal", "start", "end", "center", "stretch"))
	return l
}

// child is properties of what stands in a grid.
func (d dice) child() (l []string) {
	add := func(often int, s ...string) {
		if d.IntN(often) == 0 {
			l = append(l, strings.Join(s, ": ")+";")
		}
	}
	add(2, "grid-column", d.line()+" / "+d.line())
	add(2, "grid-row", d.line()+" / "+d.line())
	add(6, "order", strconv.Itoa(d.IntN(5)-2))
	add(4, "justify-self", d.pick("start", "end", "center", "stretch", "normal", "auto"))
	add(4, "align-self", d.pick("start", "end", "center", "stretch", "normal", "auto"))
	size := func() string { return d.pick("auto", "min-content", "max-content", d.fixed(), d.fixed()) }
	add(4, "width", size())
	add(4, "height", size())
	add(6, "min-width", size())
	add(6, "min-height", size())
	add(6, "max-width", d.pick("none", "min-content", "max-content", d.fixed()))
	add(6, "max-height", d.pick("none", "min-content", "max-content", d.fixed()))
	margin := func() string { return d.pick("auto", "0px", "-"+d.px(), d.px(), d.pct(), "-"+d.pct()) }
	add(4, "margin", margin()+" "+margin()+" "+margin()+" "+margin())
	return l
}

func (d dice) words() string {
	boxes := func() string {
		l := []string{d.px() + " " + d.px()}
		for d.IntN(3) == 0 {
			l = append(l, d.px()+" "+d.px())
		}
		return strings.Join(l, ", ")
	}
	l := []string{boxes()}
	for d.IntN(3) > 0 {
		l = append(l, boxes())
	}
	return "content: " + strings.Join(l, " / ") + ";"
}

func (d dice) leaf() string {
	l := d.child()
	if d.IntN(4) > 0 {
		l = append(l, d.words())
	}
	return "leaf { " + strings.Join(l, " ") + " }"
}

// grid is a grid in which others stand, so many levels deep at most.
func (d dice) grid(levels int) string {
	l := append(d.child(), d.container()...)
	for d.IntN(4) > 0 {
		if levels > 0 && d.IntN(3) == 0 {
			l = append(l, d.grid(levels-1))
		} else {
			l = append(l, d.leaf())
		}
	}
	return "grid { " + strings.Join(l, " ") + " }"
}

func (d dice) document() string {
	if d.IntN(30) == 0 {
		return d.leaf()
	}
	return d.grid(3)
}

// size is a width or a height of a tree.
func (d dice) size() int {
	if d.wild && d.IntN(9) == 0 {
		return []int{top, top - 1, top / 2, 1 << 20}[d.IntN(4)]
	}
	return d.IntN(400 * unit)
}
