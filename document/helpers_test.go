package document_test

import (
	"testing"

	"parterre/api"
	"parterre/document"
	"parterre/style"
	"parterre/token"
)

// parsed tells the nodes of a document that may be.
func parsed(t *testing.T, s string) []api.Node {
	t.Helper()
	l, n, e := document.Parse([]byte(s))
	if e != api.OK || n != 0 {
		t.Fatalf("%.80q: %d, %d", s, n, int(e))
	}
	return l
}

// fails asks which error Parse tells of a text, and where; no node is told then.
func fails(t *testing.T, s string, at int, want api.Errno) {
	t.Helper()
	if l, n, e := document.Parse([]byte(s)); n != at || e != want || len(l) != 0 {
		t.Errorf("%.80q: %d, %d, %d nodes; not %d, %d", s, n, int(e), len(l), at, int(want))
	}
}

// with tells what stands at first, changed by properties, each a name and its text.
func with(t *testing.T, properties ...string) api.Style {
	t.Helper()
	s := style.Default()
	for i := 0; i < len(properties); i += 2 {
		l, _, _ := token.Tokens([]byte(properties[i+1]))
		var e api.Errno
		if s, _, e = style.Set(s, properties[i], l, 0); e != api.OK {
			t.Fatal(properties[i:i+2], int(e))
		}
	}
	return s
}

func grid(parent int, s api.Style) api.Node {
	return api.Node{Kind: api.NodeGrid, Parent: parent, Style: s}
}

func leaf(parent int, s api.Style) api.Node {
	return api.Node{Kind: api.NodeLeaf, Parent: parent, Style: s}
}

// grids tells grids of plain styles that stand in those parents.
func grids(parents ...int) []api.Node {
	var l []api.Node
	for _, parent := range parents {
		l = append(l, grid(parent, style.Default()))
	}
	return l
}
