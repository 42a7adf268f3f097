package layout

import (
	"slices"

	"parterre/api"
)

// fault is what a step leaves by that fails: the error, and the node at which it came.
type fault struct {
	node int
	e    api.Errno
}

// check leaves by a fault, if there is an error.
func check(node int, e api.Errno) {
	if e != api.OK {
		panic(fault{node, e})
	}
}

// attempt tells what steps tell, or the fault by which they left.
func attempt[T any](steps func() T) (told T, by fault) {
	defer func() {
		switch left := recover().(type) {
		case nil:
		case fault:
			by = left
		default:
			panic(left)
		}
	}()
	return steps(), by
}

// question is what may be asked of a container: its widths, or its height, if it is so wide.
type question struct {
	node, width int
	wide        bool
}

// answer is what a question came to: something, or a fault.
type answer struct {
	content api.Content
	by      fault
}

// told tells what a question comes to, or leaves by its fault. It is worked out, if that is not known yet.
func (t *Tree) told(q question, work func() api.Content) api.Content {
	a, is := t.known[q]
	if !is {
		a.content, a.by = attempt(work)
		t.known[q] = a
	}
	check(a.by.node, a.by.e)
	return a.content
}

// forget forgets what hangs on a node: what is known of it, and of all that it stands in.
func (t *Tree) forget(i int) {
	var above []int
	for ; i >= 0; i = t.nodes[i].Parent {
		above = append(above, i)
	}
	for q := range t.known {
		if slices.Contains(above, q.node) {
			delete(t.known, q)
		}
	}
}
