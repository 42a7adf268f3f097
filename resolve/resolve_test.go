package resolve_test

import (
	"math"
	"slices"
	"strconv"
	"strings"
	"testing"

	"parterre/api"
	"parterre/line"
	"parterre/resolve"
	"parterre/token"
)

// lines tells a table, as text tells it: names with blanks between, lines with / between.
func lines(s string) [][]string {
	var l [][]string
	for _, part := range strings.Split(s, "/") {
		l = append(l, strings.Fields(part))
	}
	return l
}

// pair tells two lines, as text tells them.
func pair(t *testing.T, s string) (api.Line, api.Line) {
	t.Helper()
	words, _, e := token.Tokens([]byte(s))
	if e != api.OK {
		t.Fatal(s, int(e))
	}
	start, end, next, e := line.Pair(words, 0)
	if e != api.OK || next != len(words)-1 {
		t.Fatal(s, next, int(e))
	}
	return start, end
}

func span(t *testing.T, table [][]string, start, end api.Line) api.Span {
	t.Helper()
	s, e := resolve.Span(table, start, end)
	if e != api.OK || !resolve.Good(s) {
		t.Fatalf("%.100v, %v, %v: %v, %d", table, start, end, s, int(e))
	}
	return s
}

func auto() api.Line { return api.Line{Kind: api.LineAuto} }

func number(n int, name string) api.Line { return api.Line{Kind: api.LineNum, N: n, Name: name} }

func named(name string) api.Line { return api.Line{Kind: api.LineName, Name: name} }

func spans(n int, name string) api.Line { return api.Line{Kind: api.LineSpan, N: n, Name: name} }

func fixed(from, to int) api.Span { return api.Span{From: from, To: to} }

func free(n int) api.Span { return api.Span{Auto: true, N: n} }

func TestExample(t *testing.T) {
	for s, want := range map[string]api.Span{"3 / 1": fixed(0, 2), "span 2 / auto": free(2), "-1 / auto": fixed(2, 3)} {
		start, end := pair(t, s)
		if got := span(t, lines("//"), start, end); got != want {
			t.Error(s, got)
		}
	}
}

func TestSpan(t *testing.T) { // P18.1
	const table = "a/q-start b/a/q-end/b p-end/a r-start"
	for _, x := range []struct {
		s    string
		want api.Span
	}{
		// no line is certain
		{"auto / auto", free(1)}, {"span 3 / auto", free(3)}, {"auto / span 4", free(4)}, {"span 1 / auto", free(1)},
		{"span 10000 / auto", free(10000)}, {"auto / span 10000", free(10000)}, {"span 9999 / auto", free(9999)},
		{"span a / auto", free(1)}, {"span 5 a / auto", free(1)}, {"auto / span a", free(1)}, {"auto / span 5 zz", free(1)},
		// both are spans
		{"span 3 / span 2", free(3)}, {"span 2 / span 3", free(2)}, {"span 2 a / span 3", free(1)}, {"span 2 / span 3 a", free(2)}, {"span 2 a / span 3 b", free(1)}, {"span 4 / span 4", free(4)},
		// the start alone, with auto at the end: by number from either end
		{"1 / auto", fixed(0, 1)}, {"2 / auto", fixed(1, 2)}, {"6 / auto", fixed(5, 6)}, {"7 / auto", fixed(6, 7)}, {"-1 / auto", fixed(5, 6)}, {"-6 / auto", fixed(0, 1)}, {"-7 / auto", fixed(-1, 0)}, {"-8 / auto", fixed(-2, -1)},
		// by name, there and not; of an area's ends
		{"a / auto", fixed(0, 1)}, {"b / auto", fixed(1, 2)}, {"z / auto", fixed(6, 7)}, {"q / auto", fixed(1, 2)}, {"p / auto", fixed(6, 7)}, {"r / auto", fixed(5, 6)}, {"q-start / auto", fixed(1, 2)}, {"q-end / auto", fixed(3, 4)},
		// by name and number
		{"1 a / auto", fixed(0, 1)}, {"2 a / auto", fixed(2, 3)}, {"3 a / auto", fixed(5, 6)}, {"4 a / auto", fixed(6, 7)}, {"6 a / auto", fixed(8, 9)}, {"-1 a / auto", fixed(5, 6)}, {"-3 a / auto", fixed(0, 1)}, {"-4 a / auto", fixed(-1, 0)}, {"-5 a / auto", fixed(-2, -1)}, {"1 z / auto", fixed(6, 7)}, {"-1 z / auto", fixed(-1, 0)}, {"1 q / auto", fixed(6, 7)}, {"-1 q / auto", fixed(-1, 0)},
		// the end alone
		{"auto / 1", fixed(-1, 0)}, {"auto / 2", fixed(0, 1)}, {"auto / 6", fixed(4, 5)}, {"auto / -1", fixed(4, 5)}, {"auto / -6", fixed(-1, 0)}, {"auto / -7", fixed(-2, -1)}, {"auto / 9", fixed(7, 8)},
		{"auto / a", fixed(-1, 0)}, {"auto / b", fixed(0, 1)}, {"auto / q", fixed(2, 3)}, {"auto / p", fixed(3, 4)}, {"auto / r", fixed(5, 6)}, {"auto / z", fixed(5, 6)}, {"auto / 2 a", fixed(1, 2)}, {"auto / -1 z", fixed(-2, -1)},
		// spans of tracks
		{"2 / span 1", fixed(1, 2)}, {"2 / span 3", fixed(1, 4)}, {"-1 / span 2", fixed(5, 7)}, {"-9 / span 2", fixed(-3, -1)}, {"q / span 2", fixed(1, 3)}, {"z / span 2", fixed(6, 8)}, {"3 a / span 2", fixed(5, 7)},
		{"span 1 / 2", fixed(0, 1)}, {"span 3 / 2", fixed(-2, 1)}, {"span 2 / -1", fixed(3, 5)}, {"span 2 / 9", fixed(6, 8)}, {"span 2 / q", fixed(1, 3)}, {"span 2 / p", fixed(2, 4)}, {"span 2 / -2 a", fixed(0, 2)},
		// spans of lines with a name, behind
		{"1 / span a", fixed(0, 2)}, {"1 / span 2 a", fixed(0, 5)}, {"1 / span 3 a", fixed(0, 6)}, {"1 / span 5 a", fixed(0, 8)}, {"2 / span a", fixed(1, 2)}, {"2 / span b", fixed(1, 4)}, {"3 / span 1 a", fixed(2, 5)}, {"6 / span a", fixed(5, 6)}, {"6 / span 2 b", fixed(5, 7)}, {"1 / span z", fixed(0, 6)}, {"1 / span 2 z", fixed(0, 7)}, {"9 / span a", fixed(8, 9)}, {"9 / span 3 z", fixed(8, 11)}, {"-7 / span a", fixed(-1, 0)}, {"-9 / span 2 a", fixed(-3, 2)}, {"a / span b", fixed(0, 1)}, {"q / span q-end", fixed(1, 3)}, {"q / span q", fixed(1, 6)},
		// and ahead
		{"span a / 6", fixed(2, 5)}, {"span 2 a / 6", fixed(0, 5)}, {"span 3 a / 6", fixed(-1, 5)}, {"span 5 a / 6", fixed(-3, 5)}, {"span b / 6", fixed(4, 5)}, {"span a / 1", fixed(-1, 0)}, {"span 2 a / 1", fixed(-2, 0)}, {"span a / 2", fixed(0, 1)}, {"span z / 3", fixed(-1, 2)}, {"span 2 z / 3", fixed(-2, 2)}, {"span a / 9", fixed(5, 8)}, {"span 4 a / 9", fixed(-1, 8)}, {"span a / -8", fixed(-3, -2)}, {"span a / q", fixed(2, 3)}, {"span q-start / q", fixed(1, 3)},
		// both: as they stand, turned, the same one
		{"1 / 3", fixed(0, 2)}, {"3 / 1", fixed(0, 2)}, {"2 / 2", fixed(1, 2)}, {"2 / -5", fixed(1, 2)}, {"-1 / 1", fixed(0, 5)}, {"-9 / 9", fixed(-3, 8)}, {"9 / -9", fixed(-3, 8)}, {"9 / 9", fixed(8, 9)}, {"-9 / -9", fixed(-3, -2)}, {"6 / -1", fixed(5, 6)},
		{"a / a", fixed(0, 1)}, {"b / a", fixed(0, 1)}, {"q / q", fixed(1, 3)}, {"p / p", fixed(4, 6)}, {"r / r", fixed(5, 6)}, {"z / z", fixed(6, 7)}, {"q / a", fixed(0, 1)}, {"z / q", fixed(3, 6)}, {"q / 2", fixed(1, 2)}, {"3 a / 1 a", fixed(0, 5)}, {"2 a / b", fixed(1, 2)}, {"-1 z / 1 z", fixed(-1, 6)}, {"1 q / q", fixed(3, 6)},
	} {
		start, end := pair(t, x.s)
		if got := span(t, lines(table), start, end); got != x.want {
			t.Errorf("%s: %v, not %v", x.s, got, x.want)
		}
	}
}

func TestSpanOneLine(t *testing.T) { // P18.1: a table of one line, with and without a name
	for s, want := range map[string]api.Span{
		"auto": free(1), "1": fixed(0, 1), "-1": fixed(0, 1), "2": fixed(1, 2), "-2": fixed(-1, 0), "1 / -1": fixed(0, 1), "2 / -2": fixed(-1, 1), "auto / 1": fixed(-1, 0),
		"a": fixed(0, 1), "z": fixed(1, 2), "1 / span a": fixed(0, 1), "-2 / span a": fixed(-1, 0), "span a / 2": fixed(0, 1), "span a / 1": fixed(-1, 0), "1 / z": fixed(0, 1),
	} {
		start, end := pair(t, s)
		if got := span(t, lines("a"), start, end); got != want {
			t.Errorf("%s: %v, not %v", s, got, want)
		}
	}
	if got := span(t, [][]string{nil}, number(1, ""), auto()); got != fixed(0, 1) {
		t.Error(got)
	}
}

func TestSpanFar(t *testing.T) { // P18.1, P18.2: lines beyond MaxLine on either side
	long := make([][]string, api.MaxLine+1)
	long[0], long[5000], long[api.MaxLine] = []string{"a", "k-end"}, []string{"a", "m-start", "m-end"}, []string{"a", "k-start"}
	short := lines("a/b/a")
	for _, x := range []struct {
		table      [][]string
		start, end api.Line
		want       api.Span
	}{
		{short, number(10000, ""), auto(), fixed(9999, 10000)},
		{short, number(9999, ""), spans(9, ""), fixed(9998, 10000)},
		{short, number(9999, ""), spans(10000, ""), fixed(9998, 10000)},
		{short, number(-10000, ""), auto(), fixed(-9997, -9996)},
		{short, auto(), number(-10000, ""), fixed(-9998, -9997)},
		{short, spans(10000, ""), number(-10000, ""), fixed(-10000, -9997)},
		{short, spans(10000, ""), number(1, ""), fixed(-10000, 0)},
		{short, spans(9999, ""), number(1, ""), fixed(-9999, 0)},
		{short, spans(10000, ""), number(3, ""), fixed(-9998, 2)},
		{short, number(1, ""), spans(10000, ""), fixed(0, 10000)},
		{short, number(2, ""), spans(10000, ""), fixed(1, 10000)},
		{short, number(1, ""), spans(9999, ""), fixed(0, 9999)},
		{short, number(10000, "a"), auto(), fixed(9999, 10000)}, // the lines 10000 and 10001, were there any
		{short, number(10000, "z"), auto(), fixed(9999, 10000)},
		{short, number(-10000, "z"), auto(), fixed(-10000, -9999)},
		{short, auto(), number(-10000, "z"), fixed(-10000, -9999)},
		{short, number(9999, "z"), auto(), fixed(9999, 10000)},
		{short, number(9998, "z"), auto(), fixed(9999, 10000)},
		{short, number(9997, "z"), auto(), fixed(9999, 10000)},
		{short, number(9996, "z"), auto(), fixed(9998, 9999)},
		{short, number(10000, ""), number(-10000, ""), fixed(-9997, 9999)},
		{short, number(10000, "z"), number(-10000, "z"), fixed(-10000, 10000)},
		{short, number(-10000, "z"), number(10000, "z"), fixed(-10000, 10000)},
		{short, number(1, ""), spans(10000, "z"), fixed(0, 10000)},
		{short, spans(10000, "z"), number(3, ""), fixed(-10000, 2)},
		{short, spans(9999, "a"), number(3, ""), fixed(-9998, 2)},
		{long, number(-1, ""), auto(), fixed(9999, 10000)},
		{long, number(10000, ""), auto(), fixed(9999, 10000)},
		{long, number(-10000, ""), auto(), fixed(1, 2)},
		{long, number(3, "a"), auto(), fixed(9999, 10000)},
		{long, number(4, "a"), auto(), fixed(9999, 10000)},
		{long, number(10000, "z"), auto(), fixed(9999, 10000)},
		{long, number(10000, "z"), spans(10000, "z"), fixed(9999, 10000)}, // the lines 20000 and 30000
		{long, number(10000, "z"), spans(10000, ""), fixed(9999, 10000)},
		{long, spans(10000, "z"), number(10000, "z"), fixed(-10000, 10000)},
		{long, spans(1, "z"), number(10000, "z"), fixed(-1, 10000)},
		{long, spans(1, "a"), number(10000, "z"), fixed(9999, 10000)},
		{long, spans(2, "a"), number(10000, "z"), fixed(5000, 10000)},
		{long, spans(10000, ""), number(10000, "z"), fixed(9999, 10000)},
		{long, spans(10000, "z"), number(-10000, "z"), fixed(-10000, -9999)},
		{long, spans(10000, ""), number(-10000, "z"), fixed(-10000, -9999)},
		{long, number(-10000, "z"), spans(1, "a"), fixed(-10000, 0)},
		{long, number(-10000, "z"), spans(3, "a"), fixed(-10000, 10000)},
		{long, named("m"), named("m"), fixed(5000, 5001)},
		{long, named("k"), named("k"), fixed(0, 10000)},
		{long, named("k"), auto(), fixed(9999, 10000)},
		{long, auto(), named("k"), fixed(-1, 0)},
		{long, named("z"), named("z"), fixed(9999, 10000)},
		{long, named("m"), spans(1, "a"), fixed(5000, 10000)},
		{long, spans(1, "a"), named("m"), fixed(0, 5000)},
	} {
		if got := span(t, x.table, x.start, x.end); got != x.want {
			t.Errorf("%d lines, %v, %v: %v, not %v", len(x.table), x.start, x.end, got, x.want)
		}
	}
}

// noLines are lines that may not be.
func noLines() []api.Line {
	l := []api.Line{{}, {Kind: api.LineAuto, N: 1}, {Kind: api.LineAuto, Name: "a"}, {Kind: -1}, {Kind: 5, N: 1, Name: "a"}, {Kind: math.MaxInt}, named(""), named("auto"), named("span"), named("AUTO"), named("initial"), named(strings.Repeat("n", api.MaxName+1)), {Kind: api.LineName, N: 1, Name: "a"}, number(0, ""), number(0, "a"), number(1, "auto"), spans(0, ""), spans(0, "a"), spans(-1, ""), spans(1, "span")}
	for _, n := range []int{math.MinInt, -api.MaxLine - 1, api.MaxLine + 1, math.MaxInt} {
		l = append(l, number(n, ""), number(n, "a"), spans(n, ""), spans(n, "a"))
	}
	return l
}

func fails(t *testing.T, table [][]string, start, end api.Line) {
	t.Helper()
	if s, e := resolve.Span(table, start, end); e != api.ErrArg || s != (api.Span{}) {
		t.Errorf("%d lines, %v, %v: %v, %d", len(table), start, end, s, int(e))
	}
}

func TestSpanErrors(t *testing.T) { // P18.1
	good := []api.Line{auto(), number(1, ""), number(-3, "a"), named("a"), spans(2, ""), spans(2, "a")}
	table := lines("a/b/a")
	for _, wrong := range noLines() {
		for _, right := range good {
			fails(t, table, wrong, right)
			fails(t, table, right, wrong)
		}
		fails(t, table, wrong, wrong)
		fails(t, nil, wrong, wrong)
	}
	for _, start := range good {
		for _, end := range good {
			for _, n := range []int{0, api.MaxLine + 2, 3 * api.MaxLine} {
				fails(t, make([][]string, n), start, end)
			}
			fails(t, nil, start, end)
			for _, n := range []int{1, 2, api.MaxLine, api.MaxLine + 1} {
				span(t, make([][]string, n), start, end)
			}
		}
	}
}

func TestClamp(t *testing.T) { // P18.2
	const most = api.MaxLine
	for _, x := range [][4]int{
		{0, 1, 0, 1}, {0, 3, 0, 3}, {-3, 3, -3, 3}, {-3, -2, -3, -2}, {5, 9, 5, 9},
		{-most, most, -most, most}, {-most, -most + 1, -most, -most + 1}, {most - 1, most, most - 1, most}, {-most, 0, -most, 0}, {0, most, 0, most},
		// one beyond
		{-most - 1, 3, -most, 3}, {3, most + 1, 3, most}, {-most - 1, most + 1, -most, most}, {-most - 1, -most + 1, -most, -most + 1}, {-most - 5, -most + 2, -most, -most + 2}, {most - 1, most + 1, most - 1, most}, {most - 2, most + 5, most - 2, most},
		// both beyond
		{most, most + 1, most - 1, most}, {most, math.MaxInt, most - 1, most}, {most + 1, most + 9, most - 1, most}, {math.MaxInt - 1, math.MaxInt, most - 1, most},
		{-most - 1, -most, -most, -most + 1}, {math.MinInt, -most, -most, -most + 1}, {-most - 9, -most - 1, -most, -most + 1}, {math.MinInt, math.MinInt + 1, -most, -most + 1},
		{math.MinInt, math.MaxInt, -most, most}, {math.MinInt, 0, -most, 0}, {0, math.MaxInt, 0, most}, {math.MinInt, most, -most, most}, {-most, math.MaxInt, -most, most}, {math.MinInt, -most + 1, -most, -most + 1},
		// not one below the other
		{0, 0, 0, 1}, {5, 5, 0, 1}, {1, 0, 0, 1}, {9, -9, 0, 1}, {most, most, 0, 1}, {-most, -most, 0, 1}, {most + 1, most, 0, 1}, {-most, -most - 1, 0, 1}, {most + 5, most + 5, 0, 1},
		{math.MaxInt, math.MaxInt, 0, 1}, {math.MinInt, math.MinInt, 0, 1}, {math.MaxInt, math.MinInt, 0, 1}, {0, math.MinInt, 0, 1}, {math.MaxInt, 0, 0, 1},
	} {
		if from, to := resolve.Clamp(x[0], x[1]); from != x[2] || to != x[3] {
			t.Errorf("%v: %d, %d", x, from, to)
		}
	}
}

func TestGood(t *testing.T) { // P18.3
	const most = api.MaxLine
	for _, s := range []api.Span{
		free(1), free(2), free(most - 1), free(most),
		fixed(0, 1), fixed(-1, 0), fixed(-most, most), fixed(-most, -most+1), fixed(most-1, most), fixed(3, 9), fixed(-9, -3),
	} {
		if !resolve.Good(s) {
			t.Error(s)
		}
	}
	for _, s := range []api.Span{
		{}, free(0), free(-1), free(most + 1), free(math.MinInt), free(math.MaxInt),
		{Auto: true, N: 1, From: 1}, {Auto: true, N: 1, To: 1}, {Auto: true, N: 1, From: -1}, {Auto: true, N: 1, To: -1}, {Auto: true, From: 0, To: 1}, {Auto: true, N: 1, From: 0, To: 1}, {Auto: true, N: 3, From: -1, To: 1},
		fixed(0, 0), fixed(1, 0), fixed(3, 3), fixed(9, 3), fixed(-3, -9), fixed(-most-1, 0), fixed(0, most+1), fixed(-most-1, -most), fixed(most, most+1), fixed(most, most), fixed(-most, -most), fixed(most, -most),
		fixed(math.MinInt, math.MaxInt), fixed(math.MaxInt, math.MinInt), fixed(math.MinInt, 0), fixed(0, math.MaxInt), fixed(math.MaxInt, math.MaxInt), fixed(math.MinInt, math.MinInt),
		{From: 0, To: 1, N: 1}, {From: 0, To: 1, N: -1}, {N: 1}, {From: -5, To: 5, N: 10}, {From: 0, To: 1, N: math.MaxInt},
	} {
		if resolve.Good(s) {
			t.Error(s)
		}
	}
}

func TestUnchanged(t *testing.T) { // rules 4 and 8
	whole := [][]string{{"a", "b", "spare"}, {"spare"}, {"q-end", "spare"}, {"spare"}}
	table := [][]string{whole[0][:2], whole[1][:0], whole[2][:1], whole[3]}[:3]
	for _, start := range everyLine() {
		for _, end := range everyLine() {
			span(t, table, start, end)
		}
	}
	for i, want := range []string{"a b", "", "q-end"} {
		if strings.Join(table[i], " ") != want {
			t.Error(i, table[i])
		}
	}
	for i, want := range []string{"a b spare", "spare", "q-end spare", "spare"} {
		if strings.Join(whole[i], " ") != want {
			t.Error(i, whole[i])
		}
	}
	if got := span(t, table, named("spare"), auto()); got != fixed(3, 4) {
		t.Error(got)
	}
}

// everyLine tells lines of each kind.
func everyLine() []api.Line {
	l := []api.Line{auto()}
	for _, name := range []string{"", "a", "b", "q", "z", "q-end"} {
		for _, n := range []int{1, 2, 3, 4, 5, 7, 100, api.MaxLine - 1, api.MaxLine} {
			l = append(l, number(n, name), number(-n, name), spans(n, name))
		}
		if name != "" {
			l = append(l, named(name))
		}
	}
	return l
}

// manyTables tells tables of some shapes.
func manyTables() [][][]string {
	long := make([][]string, api.MaxLine+1)
	for i := range long {
		long[i] = []string{"n" + strconv.Itoa(i%3)}
	}
	long[3], long[700], long[api.MaxLine] = []string{"a", "q-end"}, []string{"a", "b"}, []string{"b", "q-start"}
	return [][][]string{
		{nil}, lines("a"), lines("q-end q-start"), lines("///"), lines("a/b/a"), lines("a q-start/b//q-end a/b"), lines("q-end/a a b/q-start b/q-end q-start"), lines("b/b/b/b/b/a"), slices.Repeat([][]string{{"a"}}, 120), long,
	}
}
