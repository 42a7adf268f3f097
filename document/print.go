package document

import (
	"strings"

	"parterre/api"
	"parterre/style"
)

const step = "  " // by which what stands in a node is indented

// printer writes nodes.
type printer struct {
	nodes []api.Node
	names []string // of the properties
	usual []string // of each its text where nothing is said
	text  strings.Builder
}

// Print tells nodes' text.
func Print(l []api.Node) string {
	if !Good(l) {
		return ""
	}
	p := printer{nodes: l, names: style.Names()}
	for _, name := range p.names {
		p.usual = append(p.usual, style.Text(style.Default(), name))
	}
	p.node(0, "")
	return p.text.String()
}

func (p *printer) line(parts ...string) {
	for _, part := range parts {
		p.text.WriteString(part)
	}
	p.text.WriteByte('\n')
}

// node writes a node and all that stand in it, and tells the place behind them.
func (p *printer) node(at int, indent string) int {
	word := "leaf"
	if p.nodes[at].Kind == api.NodeGrid {
		word = "grid"
	}
	p.line(indent, word, " {")
	p.properties(p.nodes[at].Style, indent+step)
	next := at + 1
	for next < len(p.nodes) && p.nodes[next].Parent == at {
		next = p.node(next, indent+step)
	}
	p.line(indent, "}")
	return next
}

// properties writes what a style says beside what stands at first.
func (p *printer) properties(s api.Style, indent string) {
	for i, name := range p.names {
		if text := style.Text(s, name); text != p.usual[i] {
			p.line(indent, name, ": ", text, ";")
		}
	}
}
