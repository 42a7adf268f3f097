package document_test

import (
	"reflect"
	"strings"
	"testing"

	"parterre/api"
	"parterre/document"
	"parterre/style"
)

func isParsed(t *testing.T, s string, want ...api.Node) {
	t.Helper()
	l := parsed(t, s)
	if !reflect.DeepEqual(l, want) || !document.Good(l) || !document.Same(l, want) {
		t.Errorf("%.80q: %+v; not %+v", s, l, want)
	}
}

func TestParse(t *testing.T) { // P12.1
	none := style.Default()
	isParsed(t, "grid{}", grid(-1, none))
	isParsed(t, "leaf { }", leaf(-1, none))
	isParsed(t, " /* a */ GRID /* b */ { /* c */ } /* d */\n", grid(-1, none))
	isParsed(t, `Le\61 f{}`, leaf(-1, none))
	isParsed(t, "leaf { width: 1px; }", leaf(-1, with(t, "width", "1px")))
	isParsed(t, "leaf{width:1px;height:2px;content:3px 4px;}", leaf(-1, with(t, "width", "1px", "height", "2px", "content", "3px 4px")))
	isParsed(t, `leaf { Wi\64th: 1PX; GRID-ROW: A; }`, leaf(-1, with(t, "width", "1px", "grid-row", "A")))
	isParsed(t, "leaf { CONTENT: none; }", leaf(-1, none))
	isParsed(t, "grid { leaf { } }", grid(-1, none), leaf(0, none))
	isParsed(t, "grid { grid { } }", grid(-1, none), grid(0, none))
	isParsed(t, "grid { leaf { } leaf { } grid { leaf { } } leaf { } }", grid(-1, none), leaf(0, none), leaf(0, none), grid(0, none), leaf(3, none), leaf(0, none))
	isParsed(t, "grid{grid{grid{leaf{}}}grid{leaf{}}}", grid(-1, none), grid(0, none), grid(1, none), leaf(2, none), grid(0, none), leaf(4, none))
	isParsed(t, "grid { grid-template-columns: 1fr 2fr; leaf { order: 1; } leaf { } }", // the example
		grid(-1, with(t, "grid-template-columns", "1fr 2fr")), leaf(0, with(t, "order", "1")), leaf(0, none))
	isParsed(t, `grid { grid-template: "grid leaf" / 1px 2px; leaf { grid-area: grid; } }`,
		grid(-1, with(t, "grid-template", `"grid leaf" / 1px 2px`)), leaf(0, with(t, "grid-area", "grid")))
}

func TestParseAgain(t *testing.T) { // Words: a property that comes again holds for what it sets, wherever it stands
	isParsed(t, "leaf { width: 1px; width: 2px; height: 3px; WIDTH: 4px; }", leaf(-1, with(t, "width", "4px", "height", "3px")))
	isParsed(t, "leaf { width: 1px; width: auto; }", leaf(-1, style.Default()))
	isParsed(t, "leaf { margin: 1px; margin-left: 2px; }", leaf(-1, with(t, "margin", "1px 1px 1px 2px")))
	isParsed(t, "leaf { margin-left: 2px; margin: 1px; }", leaf(-1, with(t, "margin", "1px")))
	isParsed(t, "grid { grid-template-areas: 'a'; grid-template: 1px / 2px; }", grid(-1, with(t, "grid-template-rows", "1px", "grid-template-columns", "2px")))
	isParsed(t, "grid { grid-template: 1px / 2px; grid-template-areas: 'a'; }", grid(-1, with(t, "grid-template-rows", "1px", "grid-template-columns", "2px", "grid-template-areas", "'a'")))
	isParsed(t, "grid { width: 1px; leaf { height: 2px; } height: 3px; leaf { width: 4px; } width: 5px; }",
		grid(-1, with(t, "width", "5px", "height", "3px")), leaf(0, with(t, "height", "2px")), leaf(0, with(t, "width", "4px")))
	isParsed(t, "leaf { content: 1px 1px; content: none; }", leaf(-1, style.Default()))
}

func TestParseProperties(t *testing.T) { // P12.1: each name in a document
	for _, name := range append(style.Names(), "gap", "grid-row", "grid-column", "grid-area", "margin", "place-content", "place-items", "place-self", "grid-template") {
		text := ""
		for _, x := range []string{"7px", "7px 7px", "7", "start", "column", "'a'"} {
			if l, n, e := document.Parse([]byte("leaf { " + name + ": " + x + "; }")); e == api.OK {
				text = x
				if want := with(t, name, x); n != 0 || len(l) != 1 || !style.Same(l[0].Style, want) || style.Same(want, style.Default()) {
					t.Errorf("%s: %s: %d, %+v", name, x, n, l)
				}
			}
		}
		if text == "" {
			t.Errorf("%s is not read", name)
		}
		fails(t, "leaf { "+name+": ; }", len("leaf { : ")+len(name), api.ErrSyntax)
		fails(t, "leaf { "+name+": {}; }", len("leaf { : ")+len(name), api.ErrSyntax)
		if name != "content" {
			parsed(t, "grid { "+name+": "+text+"; }")
		}
	}
}

func TestParseWanting(t *testing.T) { // P12.1: documents that end too soon
	none := style.Default()
	for s, at := range map[string]int{
		"": 0, " ": 1, "/**/": 4, "\n\n": 2, "grid": 4, "leaf ": 5, "grid {": 6, "leaf{": 5,
		"leaf { width": 7, "leaf { width :": 14, "leaf { width : 1px": 18, "leaf { width : 1px ;": 20,
		"grid { width": 7, "grid { width:": 13, "grid { width: 1px;": 18, "grid { leaf": 11, "grid { leaf {": 13, "grid { leaf { }": 15,
		"grid { leaf { } leaf": 20, "grid { leaf { } leaf { width: 1px": 33, "grid { grid { leaf { } }": 24,
		"leaf { margin: 1px 2px": 22, "leaf { content: 1px": 19, "leaf { grid-area: a /": 21, "grid { grid-template-columns: repeat(2,": 39,
	} {
		fails(t, s, at, api.ErrSyntax)
	}
	isParsed(t, "grid { leaf { } }", grid(-1, none), leaf(0, none))
}

func TestParseTooMany(t *testing.T) { // P12.1: words that are no document's, at each place
	for s, at := range map[string]int{
		"x": 0, "grid-": 0, "gridd {}": 0, "5": 0, "{ }": 0, "}": 0, ";": 0, "'grid' { }": 0, "grid( { }": 0, "width: 1px;": 0, "1grid { }": 0, "-grid { }": 0,
		"grid x { }": 5, "grid: { }": 4, "grid; { }": 4, "grid }": 5, "grid [ ]": 5, "grid ( )": 5, "leaf '{' }": 5, "grid grid { }": 5, "leaf leaf { }": 5,
		"grid { x }": 7, "grid { 5: 1px; }": 7, "grid { ; }": 7, "grid { : 1px; }": 7, "grid { { } }": 7, "grid { 'width': 1px; }": 7, "grid { width(: 1px; }": 7, "grid { ] }": 7, "grid { , }": 7,
		"leaf { x }": 7, "leaf { 5: 1px; }": 7, "leaf { ; }": 7, "leaf { { } }": 7, "leaf { 'width': 1px; }": 7,
		"leaf { leaf { } }": 7, "leaf { grid { } }": 7, "leaf { width: 1px; leaf { } }": 19, "leaf { leaf": 7, "leaf { grid }": 7,
		"grid { leaf x { } }": 12, "grid { leaf }": 12, "grid { grid ; }": 12, "grid { leaf grid { } }": 12, "grid { leaf { leaf { } } }": 14,
		"leaf { width 1px; }": 7, "leaf { width; }": 7, "leaf { width }": 7, "grid { width { } }": 7, "leaf { width x: 1px; }": 7, "grid { content 1px 1px; }": 7, "grid { color red; }": 7, "grid { display grid; }": 7,
		"leaf { width:: 1px; }": 13, "leaf { width: ; }": 14, "leaf { width: : 1px; }": 14, "leaf { width: 1px 2px; }": 18, "leaf { width: 1px }": 18, "leaf { width: 1px, }": 17, "leaf { width: 1px: }": 17, "leaf { width: 1px x }": 18,
		"leaf { width: 1px;; }": 18, "leaf { width: 1px; ; }": 19, "leaf { width: 1px } }": 18, "leaf { width: 1px { } }": 18, "leaf { gap: 1px 2px 3px; }": 20, "leaf { grid-row: 1 / 2 / 3; }": 23,
		"grid { } x": 9, "grid { } grid { }": 9, "grid { } }": 9, "leaf { } ;": 9, "leaf { } 5": 9, "leaf { } width: 1px;": 9, "grid { leaf { } } }": 18, "leaf{}{}": 6, "leaf { }/**/'x'": 12,
	} {
		fails(t, s, at, api.ErrSyntax)
	}
}

func TestParseNames(t *testing.T) { // P12.1: names that are none, at the name, when : was read
	for _, kind := range []string{"grid", "leaf"} {
		for _, name := range strings.Fields("display position float clear aspect-ratio padding border box-sizing overflow grid inset transform writing-mode direction Display GRID") {
			fails(t, kind+" { "+name+": 1px; }", 7, api.ErrFeature)
			fails(t, kind+" { "+name+": 2em; }", 7, api.ErrFeature)
			fails(t, kind+" { "+name+":", 7, api.ErrFeature)
			fails(t, kind+" { width: 1px; "+name+"\n: { } ", 19, api.ErrFeature)
		}
		for _, name := range []string{"color", "leaf", "LEAF", "x", "widths", "--x", "grid-gap", `\31`, "none"} {
			fails(t, kind+" { "+name+": 1px; }", 7, api.ErrName)
			fails(t, kind+" { "+name+": 2em; }", 7, api.ErrName)
			fails(t, kind+" { "+name+":", 7, api.ErrName)
			fails(t, kind+" { width: 1px; "+name+" : }", 19, api.ErrName)
		}
		for _, name := range []string{"width", "display", "color", "content", "gap"} {
			fails(t, kind+" { "+name+" 1px; }", 7, api.ErrSyntax)
			fails(t, kind+" { "+name+" ; }", 7, api.ErrSyntax)
			fails(t, kind+" { "+name, 7, api.ErrSyntax)
		}
	}
}

func TestParseStyleErrors(t *testing.T) { // P12.1: what style tells, at its word
	for _, x := range []struct {
		s  string
		at int
		e  api.Errno
	}{
		{"grid { width: 1em; }", 14, api.ErrFeature}, {"grid { width: inherit; }", 14, api.ErrFeature}, {"grid { gap: 1px 2em; }", 16, api.ErrFeature}, {"grid { display: 1em; }", 7, api.ErrFeature},
		{"grid { order: 9999999; }", 14, api.ErrLimit}, {"grid { width: 1e99px; }", 14, api.ErrOver}, {"grid { width: -1px; }", 14, api.ErrSyntax}, {"grid { width: none; }", 14, api.ErrSyntax},
		{"grid { max-width: auto; }", 18, api.ErrSyntax}, {"leaf { content: 1px; }", 19, api.ErrSyntax}, {"leaf { content: 1px 2em; }", 20, api.ErrFeature},
		{"leaf { grid-row: a / 0; }", 21, api.ErrSyntax}, {"leaf { grid-area: 1 / 2 / 10001; }", 26, api.ErrLimit}, {"leaf { align-self: first baseline; }", 19, api.ErrFeature},
		{"grid { grid-template-columns: repeat(auto-fill, 1fr); }", 30, api.ErrSyntax}, {"grid { grid-template-areas: 'a' 'b c'; }", 32, api.ErrSyntax}, {"grid { grid-template-rows: subgrid; }", 27, api.ErrFeature},
		{"grid { grid-template: 1px; }", 25, api.ErrSyntax}, {"grid { grid-auto-flow: dense rows; }", 29, api.ErrSyntax},
		{"grid { leaf { width: 1px; } leaf { width: 1em; } }", 42, api.ErrFeature}, {"grid { leaf { } height: calc(1px); }", 24, api.ErrFeature},
	} {
		fails(t, x.s, x.at, x.e)
	}
}

func TestParseContentOfGrids(t *testing.T) { // P12.1: at the name, whatever stands behind it
	for _, text := range []string{"1px 1px;", "none;", "2em 1px;", "x", "", ";", "1px 1px"} {
		fails(t, "grid { content: "+text+" }", 7, api.ErrTree)
		fails(t, "grid { CONTENT :"+text, 7, api.ErrTree)
		fails(t, `grid { c\6fntent:`+text, 7, api.ErrTree)
		fails(t, "grid { leaf { content: 1px 1px; } grid { content: "+text+" } }", 41, api.ErrTree)
		fails(t, "grid { width: 1px; leaf { } content: "+text+" }", 28, api.ErrTree)
	}
	parsed(t, "grid { leaf { content: 1px 1px; } }")
}

func TestParseTokens(t *testing.T) { // P12.1: what token tells goes ahead of all else
	fails(t, "grid { # }", 7, api.ErrToken)
	fails(t, "x y z #", 6, api.ErrToken)
	fails(t, "grid { color: red; content: none; leaf { } } grid 'a", 50, api.ErrToken)
	fails(t, "leaf { } /* ", 9, api.ErrToken)
	fails(t, "leaf\x00{ }", 4, api.ErrToken)
	fails(t, "x "+strings.Repeat("y", api.MaxName+1), 2, api.ErrLimit)
	fails(t, "x "+strings.Repeat(";", api.MaxTokens), 2+api.MaxTokens-1, api.ErrLimit)
	fails(t, "x"+strings.Repeat(" ", api.MaxBytes), api.MaxBytes, api.ErrLimit)
	fails(t, "leaf { }"+strings.Repeat(" ", api.MaxBytes-8)+" ", api.MaxBytes, api.ErrLimit)
	parsed(t, "leaf { }"+strings.Repeat(" ", api.MaxBytes-8))
}

func TestParseFirst(t *testing.T) { // P12.1: of several errors that of the word that is read first
	fails(t, "grid { width: 1em; color: red; }", 14, api.ErrFeature)
	fails(t, "grid { color: red; width: 1em; }", 7, api.ErrName)
	fails(t, "grid { leaf { color: red; } content: none; } x", 14, api.ErrName)
	fails(t, "grid { leaf { width 1px; } color: red; }", 14, api.ErrSyntax)
	fails(t, "grid { order: 9999999 content: none; }", 14, api.ErrLimit)
	fails(t, "grid { width: 1px content: none; }", 18, api.ErrSyntax)
	fails(t, "grid { grid: 1; leaf: 2; }", 7, api.ErrFeature)
	fails(t, "grid { leaf: 2; grid: 1; }", 7, api.ErrName)
	fails(t, "grid { } grid { color: red; }", 9, api.ErrSyntax)
}

func TestParseDeep(t *testing.T) { // P12.1: MaxDepth and one deeper
	open := func(n int) string { return strings.Repeat("grid{", n) }
	closed := func(n int) string { return strings.Repeat("}", n) }
	for _, inner := range []string{"", "leaf{}", "leaf{}grid{}leaf{width:1px;}"} {
		l := parsed(t, open(api.MaxDepth-1)+inner+closed(api.MaxDepth-1))
		if len(l) != api.MaxDepth-1+strings.Count(inner, "{") {
			t.Error(inner, len(l))
		}
	}
	if l := parsed(t, open(api.MaxDepth)+closed(api.MaxDepth)); len(l) != api.MaxDepth || l[api.MaxDepth-1].Parent != api.MaxDepth-2 {
		t.Error(len(l))
	}
	at := 5 * api.MaxDepth
	for _, inner := range []string{"leaf{}", "grid{}", "leaf", "grid x", "LEAF { color: red; }", "grid { content: none; }", "leaf ;"} {
		fails(t, open(api.MaxDepth)+inner+closed(api.MaxDepth), at, api.ErrLimit)
		fails(t, open(api.MaxDepth)+"width:1px;"+inner, at+10, api.ErrLimit)
		fails(t, open(api.MaxDepth-1)+"leaf{}grid{"+inner, at+6, api.ErrLimit)
	}
	fails(t, open(api.MaxDepth)+"leaf: 1px;", at, api.ErrName)
	fails(t, open(api.MaxDepth)+"grid: 1px;", at, api.ErrFeature)
	fails(t, open(api.MaxDepth)+"x", at, api.ErrSyntax)
	fails(t, open(api.MaxDepth-1)+"leaf{leaf{", at, api.ErrSyntax)
}

func TestParseMany(t *testing.T) { // P12.1: MaxNodes nodes and one more
	leaves := func(n int) string { return strings.Repeat("leaf{}", n) }
	if l := parsed(t, "grid{"+leaves(api.MaxNodes-1)+"}"); len(l) != api.MaxNodes || l[api.MaxNodes-1].Parent != 0 {
		t.Error(len(l))
	}
	if l := parsed(t, "grid{grid{"+leaves(api.MaxNodes-3)+"}leaf{}width:1px;}"); len(l) != api.MaxNodes || l[api.MaxNodes-1].Parent != 0 || l[api.MaxNodes-2].Parent != 1 {
		t.Error(len(l))
	}
	at := 5 + 6*(api.MaxNodes-1)
	for _, more := range []string{"leaf{}}", "grid{}}", "leaf", "GRID { color: red;", "leaf ; "} {
		fails(t, "grid{"+leaves(api.MaxNodes-1)+more, at, api.ErrLimit)
		fails(t, "grid{"+leaves(api.MaxNodes-1)+"width:1px;"+more, at+10, api.ErrLimit)
		fails(t, "grid{grid{}"+leaves(api.MaxNodes-3)+"grid{"+more, at-1, api.ErrLimit)
	}
	fails(t, "grid{"+leaves(api.MaxNodes-1)+"leaf:", at, api.ErrName)
	fails(t, "grid{"+leaves(api.MaxNodes-1)+"} leaf {}", at+2, api.ErrSyntax)
	fails(t, "grid{"+leaves(api.MaxNodes-2)+"leaf{leaf", at-1, api.ErrSyntax)
}

func TestParseKeepsItsBytes(t *testing.T) { // DOC.md, rules 4 and 8
	text := `grid { grid-template: [n] "a b" 1px / 1fr 2fr; leaf { grid-area: a; content: 1px 1px; } }`
	whole := []byte(text + "mark")
	l, _, e := document.Parse(whole[:len(text)])
	if e != api.OK || string(whole) != text+"mark" {
		t.Errorf("%d: %s", int(e), whole)
	}
	for i := range whole {
		whole[i] = 'x'
	}
	if !document.Same(l, parsed(t, text)) {
		t.Error("what was told hangs on what was handed in")
	}
}
