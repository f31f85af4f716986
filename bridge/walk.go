package bridge

import (
	"footbridge/api"
)

// none is the node from which a walk comes to the first node of a part.
const none = -1

// node of a graph, and what a walk finds of it. The walk goes along edges as far as it can, and then back; so an edge beside its way leads from a node to one ahead of it on that way alone, and how far ahead such edges lead tells what hangs on one edge, or on one node.
type node struct {
	near   []int // the nodes that it has an edge to
	from   int   // the node from which the walk came to it
	least  int   // the first node of its part
	turn   int   // how many nodes the walk had come to by then, this one counted; 0: it has not come here
	back   int   // the least turn to which an edge beside the way leads from this node, or from one behind it; else its own turn
	pieces int   // how many parts its part is without it
}

// walker through a graph.
type walker struct {
	nodes []node
	turn  int // how many nodes it has come to
}

// walked gives the nodes of a graph, with what a walk through all of them finds; or Check's error.
func walked(n int, l []api.Edge) ([]node, error) {
	if _, err := Check(n, l); err != nil {
		return nil, err
	}
	w := &walker{nodes: make([]node, n)}
	for _, e := range l {
		w.nodes[e.A].near = append(w.nodes[e.A].near, e.B)
		w.nodes[e.B].near = append(w.nodes[e.B].near, e.A)
	}
	for a := range w.nodes { // rising, so that the first node of a part is its least
		if w.nodes[a].turn == 0 {
			w.walk(a, none)
		}
	}
	return w.nodes, nil
}

// walk from a on to all that it has not come to yet, and back to the node from which it came.
func (w *walker) walk(a, from int) {
	w.arrive(a, from)
	here := &w.nodes[a]
	for _, b := range here.near {
		next := &w.nodes[b]
		switch {
		case b == from: // the way itself, and as no edge is there twice, no edge beside it
		case next.turn > 0:
			here.back = min(here.back, next.turn)
		default:
			w.walk(b, a)
			here.back = min(here.back, next.back)
			if next.back >= here.turn { // no edge leads from behind here to ahead of it
				here.pieces++
			}
		}
	}
}

// arrive at a node for the first time.
func (w *walker) arrive(a, from int) {
	w.turn++
	here := &w.nodes[a]
	here.from, here.least, here.turn, here.back = from, a, w.turn, w.turn
	if from != none {
		here.least = w.nodes[from].least
		here.pieces = 1 // what is ahead of it
	}
}

// hangs tells whether the walk came from a to b, and what is ahead of b is joined to it by that edge alone.
func hangs(nodes []node, a, b int) bool {
	return nodes[b].from == a && nodes[b].back == nodes[b].turn
}
