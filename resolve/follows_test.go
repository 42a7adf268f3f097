package resolve_test

import (
	"math/rand/v2"
	"slices"
	"strconv"
	"testing"

	"parterre/api"
	"parterre/area"
	"parterre/names"
	"parterre/resolve"
)

// walk goes line by line, until it has met as many as are asked for: of the table those that have a name, beyond it all.
func walk(table [][]string, name string, from, step, n int) int {
	at := from
	for n > 0 {
		at += step
		if at < 0 && step < 0 || at >= len(table) && step > 0 || at >= 0 && at < len(table) && (name == "" || slices.Contains(table[at], name)) {
			n--
		}
	}
	return at
}

// stands tells where a certain line is.
func stands(table [][]string, v api.Line, suffix string) (int, bool) {
	switch v.Kind {
	case api.LineNum:
		if v.N < 0 {
			return walk(table, v.Name, len(table), -1, -v.N), true
		}
		return walk(table, v.Name, -1, 1, v.N), true
	case api.LineName:
		for i, line := range table {
			if slices.Contains(line, v.Name+suffix) {
				return i, true
			}
		}
		return walk(table, v.Name, -1, 1, 1), true
	}
	return 0, false
}

// plain tells what Span should, step by step.
func plain(table [][]string, start, end api.Line) api.Span {
	if start.Kind == api.LineSpan && end.Kind == api.LineSpan {
		end = auto()
	}
	from, begins := stands(table, start, "-start")
	to, ends := stands(table, end, "-end")
	if !begins && !ends {
		for _, v := range []api.Line{start, end} {
			if v.Kind == api.LineSpan && v.Name == "" {
				return free(v.N)
			}
		}
		return free(1)
	}
	goes := func(v api.Line, at, step int) int {
		switch {
		case v.Kind == api.LineAuto:
			return at + step
		case v.Name == "":
			return at + step*v.N
		}
		return walk(table, v.Name, at, step, v.N)
	}
	if !ends {
		to = goes(end, from, 1)
	}
	if !begins {
		from = goes(start, to, -1)
	}
	both := []int{from, to}
	slices.Sort(both)
	if from == to {
		both[1]++
	}
	return within(both[0], both[1])
}

// within tells which tracks are there of those asked for; the nearest one, if none is.
func within(from, to int) api.Span {
	from, to = max(from, -api.MaxLine), min(to, api.MaxLine)
	if from >= api.MaxLine {
		from = api.MaxLine - 1
	}
	if to <= -api.MaxLine {
		to = -api.MaxLine + 1
	}
	return fixed(from, to)
}

func TestEveryKind(t *testing.T) { // P18.1, P18.4: each kind of line at either end, with each at the other
	for _, table := range manyTables() {
		all := everyLine()
		if len(table) > 1000 {
			all = slices.DeleteFunc(all, func(v api.Line) bool { return v.N > 1 && v.N < api.MaxLine || v.N < -1 || v.Name == "z" }) // all of them would take long
		}
		for _, start := range all {
			for _, end := range all {
				if got, want := span(t, table, start, end), plain(table, start, end); got != want {
					t.Fatalf("%.100v, %v, %v: %v, not %v", table, start, end, got, want)
				}
			}
		}
	}
}

// someTable tells a table by chance.
func someTable(random *rand.Rand) [][]string {
	table := make([][]string, 1+random.IntN(12))
	for i := range table {
		for range random.IntN(3) {
			table[i] = append(table[i], []string{"a", "b", "q-start", "q-end", "z-end"}[random.IntN(5)])
		}
	}
	return table
}

func TestByChance(t *testing.T) { // P18.1, P18.4
	random := rand.New(rand.NewPCG(18, 4))
	all := everyLine()
	for range 20000 {
		table := someTable(random)
		start, end := all[random.IntN(len(all))], all[random.IntN(len(all))]
		if got, want := span(t, table, start, end), plain(table, start, end); got != want {
			t.Fatalf("%v, %v, %v: %v, not %v", table, start, end, got, want)
		}
	}
}

func TestTurned(t *testing.T) { // P18.5
	random := rand.New(rand.NewPCG(18, 5))
	someNumber := func() api.Line {
		n := 1 + random.IntN([]int{15, api.MaxLine}[random.IntN(2)])
		return number([]int{n, -n}[random.IntN(2)], []string{"", "a", "b", "none"}[random.IntN(4)])
	}
	for range 20000 {
		table := someTable(random)
		start, end := someNumber(), someNumber()
		got, turned := span(t, table, start, end), span(t, table, end, start)
		if got != turned || got.Auto {
			t.Fatalf("%v, %v, %v: %v, %v", table, start, end, got, turned)
		}
	}
}

func TestAreas(t *testing.T) { // P18.6
	cells := [][]string{{"a", "a", "b", ""}, {"a", "a", "b", "d"}, {"", "c", "c", "c"}}
	rects := area.Rects(cells)
	if len(rects) != 4 {
		t.Fatal(rects)
	}
	for _, most := range []int{4, 5, api.MaxLine} {
		rows, cols := names.Table([][]string{{"a"}, {"b", "c"}}, rects, true, most), names.Table([][]string{{"x"}, {"a"}, {"c"}}, rects, false, most)
		for _, x := range rects {
			v := named(x.Name)
			if got := span(t, rows, v, v); got != fixed(x.Row, x.Row+x.Rows) {
				t.Error(x, got)
			}
			if got := span(t, cols, v, v); got != fixed(x.Col, x.Col+x.Cols) {
				t.Error(x, got)
			}
			if got := span(t, rows, v, auto()); got != fixed(x.Row, x.Row+1) {
				t.Error(x, got)
			}
			if got := span(t, cols, auto(), v); got != fixed(x.Col+x.Cols-1, x.Col+x.Cols) {
				t.Error(x, got)
			}
		}
	}
}

func TestAreasByChance(t *testing.T) { // P18.6: each cell an area of its own, or of the whole row
	random := rand.New(rand.NewPCG(18, 6))
	for range 300 {
		cells := make([][]string, 1+random.IntN(7))
		wide := 1 + random.IntN(7)
		for i := range cells {
			cells[i] = make([]string, wide)
			joined := random.IntN(2) == 0
			for k := range cells[i] {
				cells[i][k] = "n" + strconv.Itoa(i)
				if !joined {
					cells[i][k] += "-" + strconv.Itoa(k)
				}
			}
		}
		rects := area.Rects(cells)
		rows, cols := names.Table(nil, rects, true, len(cells)), names.Table(nil, rects, false, wide)
		for _, x := range rects {
			v := named(x.Name)
			if got := span(t, rows, v, v); got != fixed(x.Row, x.Row+x.Rows) {
				t.Fatal(cells, x, got)
			}
			if got := span(t, cols, v, v); got != fixed(x.Col, x.Col+x.Cols) {
				t.Fatal(cells, x, got)
			}
		}
	}
}

func TestClampByChance(t *testing.T) { // P18.2: of two lines, the tracks that are there; and what it tells, it tells again
	random := rand.New(rand.NewPCG(18, 2))
	for range 50000 {
		reach := []int{20, 3 * api.MaxLine}[random.IntN(2)]
		base := []int{0, api.MaxLine, -api.MaxLine}[random.IntN(3)]
		a, b := base+random.IntN(2*reach+1)-reach, base+random.IntN(2*reach+1)-reach
		from, to := resolve.Clamp(a, b)
		want := within(a, b)
		if a >= b {
			want = fixed(0, 1)
		}
		if got := fixed(from, to); got != want || !resolve.Good(got) {
			t.Fatal(a, b, got, want)
		}
		if again, end := resolve.Clamp(from, to); again != from || end != to {
			t.Fatal(from, to, again, end)
		}
	}
}
