package document

import (
	"parterre/api"
	"parterre/ident"
	"parterre/style"
	"parterre/value"
)

// wrong is why words are no document, and the place in the bytes of the word that is told.
type wrong struct {
	at int
	e  api.Errno
}

// reader goes through a document's words, the last of which is the end.
type reader struct {
	words []api.Token
	at    int // of the next word
	nodes []api.Node
}

// read tells the nodes of words, or the first thing that is wrong with these.
func read(words []api.Token) (nodes []api.Node, fault wrong) {
	defer func() {
		switch left := recover().(type) {
		case nil:
		case wrong:
			nodes, fault = nil, left
		default:
			panic(left)
		}
	}()
	r := reader{words: words}
	r.node(-1, 1)
	if r.word().Kind != api.TokEnd {
		r.fail(api.ErrSyntax)
	}
	return r.nodes, wrong{}
}

// fail leaves the document for the next word.
func (r *reader) fail(e api.Errno) { panic(wrong{r.word().At, e}) }

func (r *reader) word() api.Token { return r.words[r.at] }

func (r *reader) isSign(s string) bool { return value.Sign(r.words, r.at, s) }

// sign goes behind a sign that must be there.
func (r *reader) sign(s string) {
	if !r.isSign(s) {
		r.fail(api.ErrSyntax)
	}
	r.at++
}

// node reads a node that stands so deep.
func (r *reader) node(parent, depth int) {
	which, next := value.Keyword(r.words, r.at, []string{"grid", "leaf"})
	switch {
	case which < 0:
		r.fail(api.ErrSyntax)
	case len(r.nodes) == api.MaxNodes || depth > api.MaxDepth:
		r.fail(api.ErrLimit)
	}
	r.at = next
	r.sign("{")
	place := len(r.nodes)
	r.nodes = append(r.nodes, api.Node{Kind: api.NodeGrid + which, Parent: parent, Style: style.Default()})
	for !r.isSign("}") {
		r.entry(place, depth)
	}
	r.at++
}

// entry reads a property of the node at a place among nodes, or a node within it.
func (r *reader) entry(place, depth int) {
	switch {
	case r.word().Kind == api.TokIdent && value.Sign(r.words, r.at+1, ":"):
		r.property(&r.nodes[place])
	case r.nodes[place].Kind == api.NodeGrid:
		r.node(place, depth+1)
	default:
		r.fail(api.ErrSyntax)
	}
}

func (r *reader) property(n *api.Node) {
	name := r.word().Text
	if n.Kind == api.NodeGrid && ident.Is(name, "content") {
		r.fail(api.ErrTree)
	}
	s, next, e := style.Set(n.Style, name, r.words, r.at+2) // behind the name and its sign
	if e != api.OK && !isProperty(name) {
		r.fail(e)
	}
	r.at = next
	if e != api.OK {
		r.fail(e)
	}
	n.Style = s
	r.sign(";")
}

// isProperty tells whether style reads something by a name: where there is no word to be read, style tells ErrSyntax of such a name alone.
func isProperty(name string) bool {
	_, _, e := style.Set(api.Style{}, name, nil, 0)
	return e == api.ErrSyntax
}
