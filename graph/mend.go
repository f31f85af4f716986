package graph

import "footbridge/api"

// The errors of forests are left aside here: their nodes are those of the graph, what is linked joins two trees, and what is cut stands in the forest.

// plant an edge that is there in Tree, as it joins two parts.
func (g *Graph) plant(e api.Edge) {
	h := g.edges[e]
	h.tree = true
	g.edges[e] = h
	for k := range h.level + 1 {
		_ = g.forests[k].Link(e.A, e.B)
	}
}

// fell an edge of Tree that had this level.
func (g *Graph) fell(e api.Edge, level int) {
	for k := range level + 1 {
		_ = g.forests[k].Cut(e.A, e.B)
	}
}

// mend Tree, of which an edge of this level was felled. None of a higher level can take its place: its two nodes hang together by edges of Tree that are of a higher level too, and so without the felled one.
func (g *Graph) mend(gap api.Edge, level int) {
	for k := level; k >= 0; k-- {
		if g.mendAt(gap, k) {
			return
		}
	}
}

// mendAt looks for an edge of level k that takes the place of the felled one; false: there is none. The two sides of the gap together had at most n over 2^k nodes, so the lesser has at most half of that, and may rise. Its edges of Tree rise first, so that the others that rise lie within what hangs together there.
func (g *Graph) mendAt(gap api.Edge, k int) bool {
	in := g.lesserSide(gap, k)
	for _, e := range g.picked(func(e api.Edge, h held) bool { return h.tree && h.level == k && in(e.A) }) {
		g.raise(e)
	}
	for _, e := range g.picked(func(e api.Edge, h held) bool { return !h.tree && h.level == k && (in(e.A) || in(e.B)) }) {
		if !in(e.A) || !in(e.B) {
			g.plant(e)
			return true
		}
		g.raise(e)
	}
	return false
}

// lesserSide tells of nodes whether they are on that side of a gap that has fewer nodes, by the edges of Tree of level k and above.
func (g *Graph) lesserSide(gap api.Edge, k int) func(node int) bool {
	forest := g.forests[k]
	side := gap.A
	sizeA, _ := forest.Size(gap.A)
	sizeB, _ := forest.Size(gap.B)
	if sizeB < sizeA {
		side = gap.B
	}
	return func(node int) bool {
		same, _ := forest.Same(side, node)
		return same
	}
}

// raise an edge by one level.
func (g *Graph) raise(e api.Edge) {
	h := g.edges[e]
	h.level++
	g.edges[e] = h
	if h.tree {
		_ = g.forests[h.level].Link(e.A, e.B)
	}
}
