package bridge

import (
	"math"
	"math/rand/v2"
	"slices"
	"testing"

	"footbridge/api"
	"footbridge/graph"
	"footbridge/plain"
	"footbridge/span"
)

func edge(a, b int) api.Edge { return api.Edge{A: min(a, b), B: max(a, b)} }

// rising gives edges in the order in which they may be handed in.
func rising(l ...api.Edge) []api.Edge {
	slices.SortFunc(l, func(x, y api.Edge) int {
		if x.A != y.A {
			return x.A - y.A
		}
		return x.B - y.B
	})
	return l
}

// all gives all edges of n nodes, rising.
func all(n int) []api.Edge {
	var l []api.Edge
	for a := range n {
		for b := a + 1; b < n; b++ {
			l = append(l, api.Edge{A: a, B: b})
		}
	}
	return l
}

// ring gives the edges of a ring through these nodes.
func ring(nodes ...int) []api.Edge {
	var l []api.Edge
	for i, a := range nodes {
		l = append(l, edge(a, nodes[(i+1)%len(nodes)]))
	}
	return rising(l...)
}

// line gives the edges of a line through these nodes.
func line(nodes ...int) []api.Edge {
	var l []api.Edge
	for i := range len(nodes) - 1 {
		l = append(l, edge(nodes[i], nodes[i+1]))
	}
	return rising(l...)
}

// upTo gives the numbers from low on, ahead of high.
func upTo(low, high int) []int {
	var l []int
	for i := low; i < high; i++ {
		l = append(l, i)
	}
	return l
}

// beyond gives numbers that are none from low to high.
func beyond(low, high int) []int {
	return []int{low - 1, low - 2, high + 1, high + 2, high + 1000, -high - 1000, 1 << 32, 1<<32 + 1, -1 << 32, math.MinInt, math.MinInt + 1, math.MaxInt, math.MaxInt - 1}
}

// wantWrong asks all faces of edges that are wrong: all tell Check's error, and nothing beside it but Check the place.
func wantWrong(t *testing.T, what string, n int, l []api.Edge, place int, want api.Errno) {
	t.Helper()
	if got, err := Check(n, l); got != place || plain.Told(err) != want {
		t.Errorf("%s: Check(%d, %v): %d %v, want %d %v", what, n, l, got, err, place, want)
	}
	if got, err := Bridges(n, l); len(got) != 0 || plain.Told(err) != want {
		t.Errorf("%s: Bridges(%d, %v): %v %v, want %v", what, n, l, got, err, want)
	}
	if got, err := Joints(n, l); len(got) != 0 || plain.Told(err) != want {
		t.Errorf("%s: Joints(%d, %v): %v %v, want %v", what, n, l, got, err, want)
	}
	if got, err := Parts(n, l); len(got) != 0 || plain.Told(err) != want {
		t.Errorf("%s: Parts(%d, %v): %v %v, want %v", what, n, l, got, err, want)
	}
}

// wantTold asks all faces of edges that are right.
func wantTold(t *testing.T, what string, n int, l []api.Edge, bridges []api.Edge, joints, parts []int) {
	t.Helper()
	if got, err := Check(n, l); got != 0 || err != nil {
		t.Fatalf("%s: Check(%d, %v): %d %v, want 0 and no error", what, n, l, got, err)
	}
	if got, err := Bridges(n, l); !slices.Equal(got, bridges) || err != nil {
		t.Fatalf("%s: Bridges(%d, %v): %v %v, want %v", what, n, l, got, err, bridges)
	}
	if got, err := Joints(n, l); !slices.Equal(got, joints) || err != nil {
		t.Fatalf("%s: Joints(%d, %v): %v %v, want %v", what, n, l, got, err, joints)
	}
	if got, err := Parts(n, l); !slices.Equal(got, parts) || err != nil {
		t.Fatalf("%s: Parts(%d, %v): %v %v, want %v", what, n, l, got, err, parts)
	}
}

// plainParts gives of each node the least one that it has a way to, plainly: the lesser of two ends goes over an edge till nothing changes.
func plainParts(n int, l []api.Edge) []int {
	parts := upTo(0, n)
	for changed := true; changed; {
		changed = false
		for _, e := range l {
			if parts[e.A] != parts[e.B] {
				least := min(parts[e.A], parts[e.B])
				parts[e.A], parts[e.B] = least, least
				changed = true
			}
		}
	}
	return parts
}

// count tells how many parts there are; a node that is left out counts for nothing, and none is -1.
func count(parts []int, out int) int {
	seen := make(map[int]int)
	for a, p := range parts {
		if a != out {
			seen[p]++
		}
	}
	return len(seen)
}

// plainBridges leaves each edge out, and counts the parts.
func plainBridges(n int, l []api.Edge) []api.Edge {
	var out []api.Edge
	whole := count(plainParts(n, l), -1)
	for i, e := range l {
		if count(plainParts(n, slices.Concat(l[:i], l[i+1:])), -1) > whole {
			out = append(out, e)
		}
	}
	return out
}

// plainJoints leaves each node out with its edges, and counts the parts of the others.
func plainJoints(n int, l []api.Edge) []int {
	var out []int
	whole := plainParts(n, l)
	for a := range n {
		var rest []api.Edge
		for _, e := range l {
			if e.A != a && e.B != a {
				rest = append(rest, e)
			}
		}
		if count(plainParts(n, rest), a) > count(whole, a) {
			out = append(out, a)
		}
	}
	return out
}

// wantAll asks all faces of edges that are right, held against what is told plainly.
func wantAll(t *testing.T, what string, n int, l []api.Edge) {
	t.Helper()
	wantTold(t, what, n, l, plainBridges(n, l), plainJoints(n, l), plainParts(n, l))
}

// B1: ordinary edges, what is told written out.
func TestOrdinary(t *testing.T) {
	l := []api.Edge{{A: 0, B: 1}, {A: 0, B: 2}, {A: 1, B: 2}, {A: 2, B: 3}}
	wantTold(t, "a ring with a leaf, and one alone", 5, l, []api.Edge{{A: 2, B: 3}}, []int{2}, []int{0, 0, 0, 0, 4})
	l = []api.Edge{{A: 0, B: 5}, {A: 1, B: 3}, {A: 1, B: 4}, {A: 2, B: 5}, {A: 3, B: 4}, {A: 4, B: 6}, {A: 6, B: 7}}
	wantTold(t, "two parts", 9, l, []api.Edge{{A: 0, B: 5}, {A: 2, B: 5}, {A: 4, B: 6}, {A: 6, B: 7}}, []int{4, 5, 6}, []int{0, 1, 0, 1, 1, 0, 1, 1, 8})
	wantAll(t, "two parts", 9, l)
}

// B1: no edge at all, as nil and as an empty list, at every n that may be: each node is alone, and none a joint.
func TestNoEdge(t *testing.T) {
	for n := 1; n <= api.MaxNodes; n++ {
		wantTold(t, "nil", n, nil, nil, nil, upTo(0, n))
		wantTold(t, "empty", n, []api.Edge{}, nil, nil, upTo(0, n))
	}
}

// B1: n that may not be: ErrRange at 0, ahead of all that may be wrong with the edges.
func TestNodesBeyond(t *testing.T) {
	for _, n := range append(beyond(1, api.MaxNodes), 0, 61) {
		for _, l := range [][]api.Edge{nil, {}, {edge(0, 1)}, all(30), {edge(0, 1), edge(0, 1)}, {edge(0, 1), {A: 1, B: 0}}, line(upTo(0, 61)...)} {
			wantWrong(t, "n", n, l, 0, api.ErrRange)
		}
	}
}

// B1: as many edges as may be, and one more: ErrFull at 0, ahead of all that may be wrong with one.
func TestManyEdges(t *testing.T) {
	for _, n := range []int{21, 22, 59, api.MaxNodes} {
		for _, k := range []int{api.MaxEdges - 1, api.MaxEdges} {
			wantAll(t, "the first", n, all(n)[:k])
			wantAll(t, "the last", n, all(n)[len(all(n))-k:])
		}
		for _, k := range []int{201, 202, len(all(n))} {
			wantWrong(t, "too many", n, all(n)[:k], 0, api.ErrFull)
			for _, e := range []api.Edge{{A: -1, B: 0}, {A: 0, B: n}, {A: 1, B: 1}, edge(3, 4)} {
				l := all(n)[:k]
				l[0], l[1] = e, e
				wantWrong(t, "too many, and some wrong", n, l, 0, api.ErrFull)
			}
		}
	}
	wantWrong(t, "too many of one node", 1, slices.Repeat([]api.Edge{{}}, 201), 0, api.ErrFull)
	wantWrong(t, "not too many of one node", 1, slices.Repeat([]api.Edge{{}}, 200), 0, api.ErrRange)
}

// B1: what lies behind a list's length is no edge of it.
func TestBehindTheLength(t *testing.T) {
	l := append(all(40)[:api.MaxEdges], edge(0, 1), edge(0, 0))
	wantTold(t, "none", 3, l[:0], nil, nil, []int{0, 1, 2})
	wantTold(t, "the first", 3, l[:1], []api.Edge{{A: 0, B: 1}}, nil, []int{0, 0, 2})
	wantTold(t, "the first two", 3, l[:2], []api.Edge{{A: 0, B: 1}, {A: 0, B: 2}}, []int{0}, []int{0, 0, 0})
	wantAll(t, "as many as may be", 40, l[:api.MaxEdges])
}

// B1: an edge from 0 to n - 1, at every n.
func TestNodesAtTheEdges(t *testing.T) {
	for n := 2; n <= api.MaxNodes; n++ {
		parts := upTo(0, n)
		parts[n-1] = 0
		wantTold(t, "edge", n, []api.Edge{{A: 0, B: n - 1}}, []api.Edge{{A: 0, B: n - 1}}, nil, parts)
	}
}

// B1: an edge that is not 0 <= A < B < n, by either or both of its nodes: ErrRange at its place.
func TestEdgeNodesBeyond(t *testing.T) {
	for _, n := range []int{1, 2, 3, 59, api.MaxNodes} {
		var wrong []api.Edge
		for _, x := range beyond(0, n-1) {
			wrong = append(wrong, api.Edge{A: x, B: 0}, api.Edge{A: 0, B: x}, api.Edge{A: n - 1, B: x}, api.Edge{A: x, B: n - 1}, api.Edge{A: x, B: x}, api.Edge{A: x, B: n}, api.Edge{A: -1, B: x})
		}
		wrong = append(wrong, api.Edge{}, api.Edge{A: n - 1, B: n - 1}, api.Edge{A: n - 1}, api.Edge{A: 0, B: n}, api.Edge{A: -1, B: 0})
		for _, e := range wrong {
			wantWrong(t, "alone", n, []api.Edge{e}, 0, api.ErrRange)
			if n > 2 {
				wantWrong(t, "last", n, []api.Edge{edge(0, 1), edge(0, 2), e}, 2, api.ErrRange)
				wantWrong(t, "within", n, []api.Edge{edge(0, 1), e, edge(0, 2)}, 1, api.ErrRange)
			}
		}
	}
}

// B1: an edge of more nodes than there are is wrong; of a greater n it is right.
func TestEdgeOfMoreNodes(t *testing.T) {
	l := []api.Edge{{A: 0, B: 1}, {A: 0, B: 2}, {A: 1, B: 3}}
	wantWrong(t, "one node", 1, l, 0, api.ErrRange)
	wantWrong(t, "two nodes", 2, l, 1, api.ErrRange)
	wantWrong(t, "three nodes", 3, l, 2, api.ErrRange)
	wantAll(t, "four nodes", 4, l)
}

// B1: edges that do not rise by A, then B, each once: ErrShape at the place of the one that does not rise.
func TestNotRising(t *testing.T) {
	wantWrong(t, "twice", 4, []api.Edge{{A: 0, B: 1}, {A: 0, B: 1}}, 1, api.ErrShape)
	wantWrong(t, "B falls", 4, []api.Edge{{A: 0, B: 2}, {A: 0, B: 1}}, 1, api.ErrShape)
	wantWrong(t, "A falls", 4, []api.Edge{{A: 1, B: 2}, {A: 0, B: 1}}, 1, api.ErrShape)
	wantWrong(t, "A falls, B rises", 4, []api.Edge{{A: 1, B: 2}, {A: 0, B: 3}}, 1, api.ErrShape)
	wantWrong(t, "A falls, B stays", 4, []api.Edge{{A: 1, B: 2}, {A: 0, B: 2}}, 1, api.ErrShape)
	wantWrong(t, "twice, one between", 4, []api.Edge{{A: 0, B: 1}, {A: 0, B: 2}, {A: 0, B: 1}}, 2, api.ErrShape)
	wantWrong(t, "falls, then rises", 4, []api.Edge{{A: 0, B: 1}, {A: 1, B: 2}, {A: 0, B: 2}, {A: 2, B: 3}}, 2, api.ErrShape)
	wantWrong(t, "falls twice", 4, []api.Edge{{A: 2, B: 3}, {A: 1, B: 2}, {A: 0, B: 2}}, 1, api.ErrShape)
	wantAll(t, "A rises, B falls", 4, []api.Edge{{A: 0, B: 3}, {A: 1, B: 2}})
	wantAll(t, "A rises, B stays", 4, []api.Edge{{A: 0, B: 3}, {A: 1, B: 3}})
	wantAll(t, "A stays, B rises by more", 4, []api.Edge{{A: 0, B: 1}, {A: 0, B: 3}})
	few := all(4)
	for i, x := range few {
		for j, y := range few {
			if i < j {
				wantAll(t, "two", 4, []api.Edge{x, y})
			} else {
				wantWrong(t, "two", 4, []api.Edge{x, y}, 1, api.ErrShape)
			}
		}
	}
}

// B1: all that is said of one edge comes ahead of all that is said of the next; of one edge ErrRange comes ahead of ErrShape.
func TestFirstWrong(t *testing.T) {
	wrong := []struct {
		edge api.Edge
		want api.Errno
	}{
		{api.Edge{A: -1, B: 2}, api.ErrRange}, {api.Edge{A: 0, B: 0}, api.ErrRange}, {api.Edge{A: 1, B: 0}, api.ErrRange},
		{api.Edge{A: 2, B: 2}, api.ErrRange}, {api.Edge{A: 0, B: 5}, api.ErrRange}, {api.Edge{A: 4, B: 5}, api.ErrRange}, {api.Edge{A: 9, B: 9}, api.ErrRange},
		{api.Edge{A: 1, B: 3}, api.ErrShape}, {api.Edge{A: 1, B: 2}, api.ErrShape}, {api.Edge{A: 0, B: 4}, api.ErrShape},
	}
	for _, x := range wrong {
		for _, y := range wrong {
			l := []api.Edge{edge(0, 1), edge(1, 3), x.edge, y.edge, edge(3, 4), y.edge}
			wantWrong(t, "some wrong", 5, l, 2, x.want)
		}
	}
}

// B1: an edge that is wrong at the last place that may be.
func TestWrongAtTheEnd(t *testing.T) {
	const last = api.MaxEdges - 1
	for _, x := range []struct {
		edge api.Edge
		want api.Errno
	}{{api.Edge{A: 29, B: 30}, api.ErrRange}, {api.Edge{A: 9, B: 8}, api.ErrRange}, {api.Edge{A: 0, B: 1}, api.ErrShape}, {all(30)[last-1], api.ErrShape}} {
		l := all(30)[:api.MaxEdges]
		l[last] = x.edge
		wantWrong(t, "last", 30, l, last, x.want)
	}
}

// B1: a ring has no bridge and no joint, however its nodes stand in it.
func TestRing(t *testing.T) {
	r := rand.New(rand.NewPCG(1, 7))
	for n := 3; n <= api.MaxNodes; n++ {
		whole := make([]int, n)
		wantTold(t, "ring", n, ring(upTo(0, n)...), nil, nil, whole)
		wantTold(t, "any ring", n, ring(r.Perm(n)...), nil, nil, whole)
	}
}

// B1: of a line each edge is a bridge, and each inner node a joint; its ends are leaves, and no joints.
func TestLine(t *testing.T) {
	r := rand.New(rand.NewPCG(2, 7))
	for n := 1; n <= api.MaxNodes; n++ {
		for _, nodes := range [][]int{upTo(0, n), r.Perm(n)} {
			l := line(nodes...)
			var inner []int
			if n > 2 {
				inner = slices.Sorted(slices.Values(nodes[1 : n-1]))
			}
			wantTold(t, "line", n, l, l, inner, make([]int, n))
		}
	}
}

// B1: of a star each edge is a bridge, and its middle the only joint, if there are two leaves at least.
func TestStar(t *testing.T) {
	for n := 2; n <= api.MaxNodes; n++ {
		for _, mid := range []int{0, n / 2, n - 1} {
			var l []api.Edge
			for a := range n {
				if a != mid {
					l = append(l, edge(a, mid))
				}
			}
			var joints []int
			if n > 2 {
				joints = []int{mid}
			}
			wantTold(t, "star", n, rising(l...), l, joints, make([]int, n))
		}
	}
}

// B1: two rings that share one node: it is a joint, and there is no bridge; three, too.
func TestRingsThatShareANode(t *testing.T) {
	wantTold(t, "by 0", 5, rising(append(ring(0, 1, 2), ring(0, 3, 4)...)...), nil, []int{0}, make([]int, 5))
	wantTold(t, "by 2", 5, rising(append(ring(0, 1, 2), ring(2, 3, 4)...)...), nil, []int{2}, make([]int, 5))
	wantTold(t, "by 4", 7, rising(append(ring(0, 4, 2, 6), ring(1, 3, 4, 5)...)...), nil, []int{4}, make([]int, 7))
	three := rising(slices.Concat(ring(0, 1, 5), ring(1, 2, 6), ring(2, 3, 4))...)
	wantTold(t, "three", 7, three, nil, []int{1, 2}, make([]int, 7))
}

// B1: two rings that share an edge have neither bridge nor joint.
func TestRingsThatShareAnEdge(t *testing.T) {
	wantTold(t, "an edge within a ring", 4, []api.Edge{{A: 0, B: 1}, {A: 0, B: 2}, {A: 0, B: 3}, {A: 1, B: 2}, {A: 2, B: 3}}, nil, nil, make([]int, 4))
	wantTold(t, "all edges", 20, all(20), nil, nil, make([]int, 20))
}

// B1: of a bridge between two rings both nodes are joints.
func TestBridgeBetweenRings(t *testing.T) {
	for a := range 3 {
		for b := 3; b < 6; b++ {
			l := rising(slices.Concat(ring(0, 1, 2), ring(3, 4, 5), []api.Edge{edge(a, b)})...)
			wantTold(t, "a bridge", 6, l, []api.Edge{edge(a, b)}, []int{a, b}, make([]int, 6))
		}
	}
	l := rising(slices.Concat(ring(0, 1, 2), ring(3, 4, 5), line(2, 6, 3))...)
	wantTold(t, "a line of two", 7, l, []api.Edge{{A: 2, B: 6}, {A: 3, B: 6}}, []int{2, 3, 6}, make([]int, 7))
	l = rising(slices.Concat(ring(0, 1, 2), ring(3, 4, 5), line(2, 3), line(0, 5))...)
	wantTold(t, "two edges", 6, l, nil, nil, make([]int, 6))
}

// B1: a part is named by its least node wherever that one stands in it, and a bridge of one part is none of another's making.
func TestPartsByTheLeast(t *testing.T) {
	wantTold(t, "the least last", 6, []api.Edge{{A: 0, B: 5}, {A: 1, B: 4}, {A: 2, B: 3}}, []api.Edge{{A: 0, B: 5}, {A: 1, B: 4}, {A: 2, B: 3}}, nil, []int{0, 1, 2, 2, 1, 0})
	wantTold(t, "a ring beside lines", 8, rising(append(ring(1, 4, 7), line(6, 2, 5)...)...), []api.Edge{{A: 2, B: 5}, {A: 2, B: 6}}, []int{2}, []int{0, 1, 2, 3, 1, 2, 2, 1})
	wantTold(t, "0 alone", 4, line(3, 1, 2), []api.Edge{{A: 1, B: 2}, {A: 1, B: 3}}, []int{1}, []int{0, 1, 1, 1})
}

// B1: every graph of few nodes.
func TestEveryGraph(t *testing.T) {
	for n := 1; n <= 6; n++ {
		edges := all(n)
		for bits := range 1 << len(edges) {
			var l []api.Edge
			for i, e := range edges {
				if bits>>i&1 == 1 {
					l = append(l, e)
				}
			}
			wantAll(t, "every", n, l)
		}
	}
}

// anyEdges gives at most k edges of n nodes, rising.
func anyEdges(r *rand.Rand, n, k int) []api.Edge {
	edges := all(n)
	r.Shuffle(len(edges), func(i, j int) { edges[i], edges[j] = edges[j], edges[i] })
	return rising(edges[:min(k, len(edges))]...)
}

// B1: edges of any kind, few and many.
func TestAny(t *testing.T) {
	for seed := range uint64(150) {
		r := rand.New(rand.NewPCG(seed, 8))
		for _, n := range []int{1 + r.IntN(12), 10 + r.IntN(40), api.MaxNodes} {
			for _, k := range []int{n / 2, n - 1, n + r.IntN(n), r.IntN(api.MaxEdges + 1)} {
				wantAll(t, "any", n, anyEdges(r, n, min(k, api.MaxEdges)))
			}
		}
	}
}

// plainCheck tells the first edge that is wrong, by its place among all edges of n nodes.
func plainCheck(n int, l []api.Edge) (int, api.Errno) {
	edges, last := all(n), -1
	for place, e := range l {
		at := slices.Index(edges, e)
		switch {
		case at < 0:
			return place, api.ErrRange
		case at <= last:
			return place, api.ErrShape
		}
		last = at
	}
	return 0, api.OK
}

// B1: edges that are drawn without looking, many of them wrong somewhere.
func TestAnyCheck(t *testing.T) {
	told := make(map[api.Errno]int)
	for seed := range uint64(4000) {
		r := rand.New(rand.NewPCG(seed, 9))
		n := 2 + r.IntN(6)
		l := anyEdges(r, n, r.IntN(12))
		for i := range l {
			switch r.IntN(20) {
			case 0:
				l[i] = api.Edge{A: r.IntN(n+2) - 1, B: r.IntN(n+2) - 1}
			case 1:
				l[i] = l[r.IntN(len(l))]
			}
		}
		place, want := plainCheck(n, l)
		told[want]++
		if want == api.OK {
			wantAll(t, "any", n, l)
		} else {
			wantWrong(t, "any", n, l, place, want)
		}
	}
	for _, e := range []api.Errno{api.OK, api.ErrRange, api.ErrShape} {
		if told[e] == 0 {
			t.Errorf("no edges were drawn that tell %v", e)
		}
	}
}

// B1, G2, K1: each tree that holds the parts together has all bridges, whichever way it was found.
func TestTreesHaveAllBridges(t *testing.T) {
	for seed := range uint64(40) {
		r := rand.New(rand.NewPCG(seed, 10))
		n := 2 + r.IntN(30)
		l := anyEdges(r, n, min(n+r.IntN(n), api.MaxEdges))
		g, err := graph.New(n)
		if err != nil {
			t.Fatal(err)
		}
		var heavy []api.Heavy
		for _, e := range l {
			if err := g.Add(e.A, e.B); err != nil {
				t.Fatal(err)
			}
			heavy = append(heavy, api.Heavy{Edge: e, Weight: r.IntN(5)})
		}
		taken, err := span.Span(n, heavy)
		if err != nil {
			t.Fatal(err)
		}
		bridges, err := Bridges(n, l)
		if err != nil {
			t.Fatal(err)
		}
		for _, e := range bridges {
			if !slices.Contains(g.Tree(), e) || !slices.Contains(taken, slices.Index(l, e)) {
				t.Errorf("bridge %v of %v: tree %v, span %v", e, l, g.Tree(), taken)
			}
		}
	}
}

// P2: what is handed in stays as it is, within its length and behind it, and what comes out is the caller's.
func TestListsAreTheCallers(t *testing.T) {
	memory := append(line(0, 1, 2, 3), edge(0, 0), edge(9, 9))
	was := slices.Clone(memory)
	l := memory[:3]
	bridges, err := Bridges(5, l)
	if err != nil {
		t.Fatal(err)
	}
	joints, err := Joints(5, l)
	if err != nil {
		t.Fatal(err)
	}
	parts, err := Parts(5, l)
	if err != nil {
		t.Fatal(err)
	}
	for i := range bridges {
		bridges[i] = api.Edge{A: -1, B: -1}
	}
	for _, out := range [][]int{joints, parts} {
		for i := range out {
			out[i] = -1
		}
	}
	_ = append(bridges, edge(5, 6))
	if !slices.Equal(memory, was) {
		t.Errorf("what was handed in is %v, was %v", memory, was)
	}
	wantTold(t, "again", 5, l, line(0, 1, 2, 3), []int{1, 2}, []int{0, 0, 0, 0, 4})
	wantWrong(t, "all", 5, memory, 3, api.ErrRange)
}
