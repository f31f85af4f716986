package graph

import (
	"math"
	"math/rand/v2"
	"slices"
	"testing"

	"footbridge/api"
	"footbridge/plain"
)

func mustNew(t *testing.T, n int) *Graph {
	t.Helper()
	g, err := New(n)
	if err != nil || g == nil {
		t.Fatalf("New(%d): %v %v", n, g, err)
	}
	return g
}

func mustAdd(t *testing.T, g *Graph, a, b int) {
	t.Helper()
	if err := g.Add(a, b); err != nil {
		t.Fatalf("Add(%d, %d): %v", a, b, err)
	}
}

func mustDrop(t *testing.T, g *Graph, a, b int) {
	t.Helper()
	if err := g.Drop(a, b); err != nil {
		t.Fatalf("Drop(%d, %d): %v", a, b, err)
	}
}

func wantErr(t *testing.T, name string, err error, want api.Errno) {
	t.Helper()
	if got := plain.Told(err); got != want {
		t.Errorf("%s: error %v, want %v", name, got, want)
	}
}

// beyond gives numbers that are none from low to high.
func beyond(low, high int) []int {
	return []int{low - 1, low - 2, high + 1, high + 2, high + 1000, -high - 1000, 1 << 32, 1<<32 + 1, -1 << 32, math.MinInt, math.MinInt + 1, math.MaxInt, math.MaxInt - 1}
}

// everyEdge gives all edges that n nodes may have, rising.
func everyEdge(n int) []api.Edge {
	var l []api.Edge
	for a := range n {
		for b := a + 1; b < n; b++ {
			l = append(l, api.Edge{A: a, B: b})
		}
	}
	return l
}

// names gives for each of n nodes the least node that the edges join it with; plainly, edge by edge, till nothing changes.
func names(n int, edges []api.Edge) []int {
	l := make([]int, n)
	for i := range l {
		l[i] = i
	}
	for changed := true; changed; {
		changed = false
		for _, e := range edges {
			if least := min(l[e.A], l[e.B]); l[e.A] != l[e.B] {
				l[e.A], l[e.B], changed = least, least, true
			}
		}
	}
	return l
}

// sizes gives for each name how many nodes have it.
func sizes(names []int) map[int]int {
	out := make(map[int]int)
	for _, name := range names {
		out[name]++
	}
	return out
}

// model is a graph that is looked at plainly, and what was last told of the one that is asked.
type model struct {
	n      int
	graph  *Graph
	edges  []api.Edge // rising
	levels map[api.Edge]int
}

func newModel(t *testing.T, n int) *model {
	t.Helper()
	return &model{n: n, graph: mustNew(t, n), levels: make(map[api.Edge]int)}
}

// add an edge to both, its nodes in either order.
func (m *model) add(t *testing.T, a, b int) {
	t.Helper()
	mustAdd(t, m.graph, a, b)
	e := api.Edge{A: min(a, b), B: max(a, b)}
	m.edges = append(m.edges, e)
	slices.SortFunc(m.edges, func(x, y api.Edge) int { return (x.A-y.A)*api.MaxNodes + x.B - y.B })
	if got, err := m.graph.Level(a, b); got != 0 || err != nil {
		t.Fatalf("Level(%d, %d) at first: %d %v, want 0", a, b, got, err)
	}
}

// drop an edge from both, its nodes in either order.
func (m *model) drop(t *testing.T, a, b int) {
	t.Helper()
	mustDrop(t, m.graph, a, b)
	e := api.Edge{A: min(a, b), B: max(a, b)}
	m.edges = slices.DeleteFunc(m.edges, func(x api.Edge) bool { return x == e })
	delete(m.levels, e)
}

// turn adds an edge that is not there, and drops one that is.
func (m *model) turn(t *testing.T, a, b int) {
	t.Helper()
	if slices.Contains(m.edges, api.Edge{A: min(a, b), B: max(a, b)}) {
		m.drop(t, a, b)
	} else {
		m.add(t, a, b)
	}
}

// want asks all that the graph tells.
func (m *model) want(t *testing.T, what string) {
	t.Helper()
	m.wantEdges(t, what)
	m.wantJoined(t, what)
	m.wantTree(t, what)
	m.wantLevels(t, what)
}

// G1: Edges and Has.
func (m *model) wantEdges(t *testing.T, what string) {
	t.Helper()
	if got := m.graph.Edges(); !slices.Equal(got, m.edges) {
		t.Fatalf("%s: Edges %v, want %v", what, got, m.edges)
	}
	for a := range m.n {
		for b := range m.n {
			want := slices.Contains(m.edges, api.Edge{A: min(a, b), B: max(a, b)})
			if got, err := m.graph.Has(a, b); got != want || err != nil {
				t.Fatalf("%s: Has(%d, %d): %v %v, want %v", what, a, b, got, err, want)
			}
		}
	}
}

// G1: Joined, Size and Parts.
func (m *model) wantJoined(t *testing.T, what string) {
	t.Helper()
	names := names(m.n, m.edges)
	sizes := sizes(names)
	if got := m.graph.Parts(); got != len(sizes) {
		t.Fatalf("%s: Parts %d of %v, want %d", what, got, m.edges, len(sizes))
	}
	for a := range m.n {
		if got, err := m.graph.Size(a); got != sizes[names[a]] || err != nil {
			t.Fatalf("%s: Size(%d): %d %v of %v, want %d", what, a, got, err, m.edges, sizes[names[a]])
		}
		for b := range m.n {
			if got, err := m.graph.Joined(a, b); got != (names[a] == names[b]) || err != nil {
				t.Fatalf("%s: Joined(%d, %d): %v %v of %v", what, a, b, got, err, m.edges)
			}
		}
	}
}

// G2: Tree is rising, some of the edges, joins what they join, and with none to spare: one edge fewer than nodes in each part.
func (m *model) wantTree(t *testing.T, what string) {
	t.Helper()
	tree := m.graph.Tree()
	for i, e := range tree {
		if !slices.Contains(m.edges, e) {
			t.Fatalf("%s: Tree has %v, which is none of %v", what, e, m.edges)
		}
		if i > 0 && (tree[i-1].A > e.A || tree[i-1].A == e.A && tree[i-1].B >= e.B) {
			t.Fatalf("%s: Tree %v does not rise", what, tree)
		}
	}
	all := names(m.n, m.edges)
	if !slices.Equal(names(m.n, tree), all) {
		t.Fatalf("%s: Tree %v does not join what %v join", what, tree, m.edges)
	}
	if len(tree) != m.n-len(sizes(all)) {
		t.Fatalf("%s: Tree %v of %d nodes in %d parts has more than one way", what, tree, m.n, len(sizes(all)))
	}
}

// G2: no Level falls, what rises is small, and an edge that is not of Tree lies within what hangs together at its Level.
func (m *model) wantLevels(t *testing.T, what string) {
	t.Helper()
	tree, high := m.graph.Tree(), 0
	for _, e := range m.edges {
		got, err := m.graph.Level(e.A, e.B)
		turned, turnedErr := m.graph.Level(e.B, e.A)
		if err != nil || turnedErr != nil || got != turned {
			t.Fatalf("%s: Level of %v: %d %v, turned: %d %v", what, e, got, err, turned, turnedErr)
		}
		if got < m.levels[e] {
			t.Fatalf("%s: Level of %v fell from %d to %d", what, e, m.levels[e], got)
		}
		m.levels[e] = got
		high = max(high, got)
	}
	for k := range high + 2 {
		above := slices.DeleteFunc(slices.Clone(tree), func(e api.Edge) bool { return m.levels[e] < k })
		names := names(m.n, above)
		for name, size := range sizes(names) {
			if size > 1 && size > m.n>>k {
				t.Fatalf("%s: %d nodes hang together with %d at Level %d of %d nodes: %v", what, size, name, k, m.n, above)
			}
		}
		for _, e := range m.edges {
			if m.levels[e] == k && !slices.Contains(tree, e) && names[e.A] != names[e.B] {
				t.Fatalf("%s: %v of Level %d is not of Tree, and does not hang together by %v", what, e, k, above)
			}
		}
	}
	for k, f := range m.graph.forests {
		above := slices.DeleteFunc(slices.Clone(tree), func(e api.Edge) bool { return m.levels[e] < k })
		if !slices.Equal(f.Edges(), above) {
			t.Fatalf("%s: the forest at %d has %v, want %v", what, k, f.Edges(), above)
		}
	}
}

// highest Level that was last told.
func (m *model) highest() int {
	high := 0
	for _, level := range m.levels {
		high = max(high, level)
	}
	return high
}

// G1: New at every n that may be, and beyond.
func TestNew(t *testing.T) {
	for n := 1; n <= api.MaxNodes; n++ {
		newModel(t, n).want(t, "new")
	}
	for _, n := range append(beyond(1, api.MaxNodes), 0) {
		g, err := New(n)
		wantErr(t, "New", err, api.ErrRange)
		if g != nil {
			t.Errorf("New(%d) gives a graph beside its error", n)
		}
	}
}

// G1, G2: an ordinary graph, its answers written out.
func TestOrdinary(t *testing.T) {
	m := newModel(t, 6)
	for _, e := range [][2]int{{4, 1}, {0, 1}, {3, 2}, {0, 4}} {
		m.add(t, e[0], e[1])
	}
	m.want(t, "ordinary")
	g := m.graph
	if got := g.Edges(); !slices.Equal(got, []api.Edge{{A: 0, B: 1}, {A: 0, B: 4}, {A: 1, B: 4}, {A: 2, B: 3}}) {
		t.Errorf("Edges: %v", got)
	}
	if got := g.Parts(); got != 3 {
		t.Errorf("Parts: %d", got)
	}
	for a, want := range []int{3, 3, 2, 2, 3, 1} {
		if got, err := g.Size(a); got != want || err != nil {
			t.Errorf("Size(%d): %d %v, want %d", a, got, err, want)
		}
	}
	if got, err := g.Joined(0, 3); got || err != nil {
		t.Errorf("Joined(0, 3): %v %v", got, err)
	}
	mustAdd(t, g, 3, 4)
	if got, err := g.Joined(0, 3); !got || err != nil {
		t.Errorf("Joined(0, 3) behind Add(3, 4): %v %v", got, err)
	}
}

// G1: a node has a way to itself, and no edge.
func TestItself(t *testing.T) {
	m := newModel(t, 3)
	for range 2 {
		for a := range 3 {
			wantErr(t, "Add", m.graph.Add(a, a), api.ErrShape)
			wantErr(t, "Drop", m.graph.Drop(a, a), api.ErrNone)
			if got, err := m.graph.Has(a, a); got || err != nil {
				t.Errorf("Has(%d, %d): %v %v", a, a, got, err)
			}
			if got, err := m.graph.Joined(a, a); !got || err != nil {
				t.Errorf("Joined(%d, %d): %v %v", a, a, got, err)
			}
			level, err := m.graph.Level(a, a)
			wantErr(t, "Level", err, api.ErrNone)
			if level != 0 {
				t.Errorf("Level(%d, %d) tells %d beside its error", a, a, level)
			}
		}
		m.want(t, "itself")
		m.turn(t, 0, 1)
	}
}

// G1, G2: the nodes of every edge in either order, at every n, 0 and n - 1 among them.
func TestBothOrders(t *testing.T) {
	for _, n := range []int{2, 3, 4, 7, api.MaxNodes} {
		for _, e := range everyEdge(n) {
			if n == api.MaxNodes && e.A > 1 && e.B < n-1 {
				continue
			}
			for turn := range 4 {
				m := newModel(t, n)
				add, drop := [2]int{e.A, e.B}, [2]int{e.A, e.B}
				if turn&1 == 1 {
					add = [2]int{e.B, e.A}
				}
				if turn&2 == 2 {
					drop = [2]int{e.B, e.A}
				}
				m.add(t, add[0], add[1])
				wantErr(t, "Add", m.graph.Add(e.A, e.B), api.ErrClash)
				wantErr(t, "Add, turned", m.graph.Add(e.B, e.A), api.ErrClash)
				m.want(t, "added")
				m.drop(t, drop[0], drop[1])
				wantErr(t, "Drop", m.graph.Drop(e.A, e.B), api.ErrNone)
				wantErr(t, "Drop, turned", m.graph.Drop(e.B, e.A), api.ErrNone)
				m.want(t, "dropped")
			}
		}
	}
}

// wantBeyond asks all faces of two nodes of which at least one is none: ErrRange, and nothing else.
func wantBeyond(t *testing.T, g *Graph, a, b int) {
	t.Helper()
	wantErr(t, "Add", g.Add(a, b), api.ErrRange)
	wantErr(t, "Drop", g.Drop(a, b), api.ErrRange)
	if got, err := g.Has(a, b); got || plain.Told(err) != api.ErrRange {
		t.Errorf("Has(%d, %d): %v %v", a, b, got, err)
	}
	if got, err := g.Joined(a, b); got || plain.Told(err) != api.ErrRange {
		t.Errorf("Joined(%d, %d): %v %v", a, b, got, err)
	}
	if got, err := g.Level(a, b); got != 0 || plain.Told(err) != api.ErrRange {
		t.Errorf("Level(%d, %d): %d %v", a, b, got, err)
	}
}

// G1, G2: nodes that there are not, as either or both, and the same one twice: ErrRange, ahead of all else.
func TestNodesBeyond(t *testing.T) {
	for _, n := range []int{1, 2, 3, 59, api.MaxNodes} {
		m := newModel(t, n)
		for b := 1; b < n; b++ {
			m.add(t, 0, b)
		}
		for _, x := range beyond(0, n-1) {
			for _, pair := range [][2]int{{x, 0}, {0, x}, {n - 1, x}, {x, n - 1}, {x, x}, {x, -1}, {-1, x}, {n, x}, {x, n}} {
				wantBeyond(t, m.graph, pair[0], pair[1])
			}
			if got, err := m.graph.Size(x); got != 0 || plain.Told(err) != api.ErrRange {
				t.Errorf("Size(%d): %d %v", x, got, err)
			}
		}
		m.want(t, "beyond")
	}
}

// full gives a graph of as many nodes and edges as may be, of which each node has some.
func full(t *testing.T) *model {
	t.Helper()
	m := newModel(t, api.MaxNodes)
	for gap := 1; len(m.edges) < api.MaxEdges; gap++ {
		for a := 0; a < api.MaxNodes && len(m.edges) < api.MaxEdges; a++ {
			m.add(t, a, (a+gap)%api.MaxNodes)
		}
	}
	return m
}

// G1: as many edges as may be, and one more; what else is wrong is told ahead of ErrFull.
func TestFull(t *testing.T) {
	m := full(t)
	m.want(t, "full")
	wantErr(t, "one more", m.graph.Add(0, 30), api.ErrFull)
	wantErr(t, "one more, turned", m.graph.Add(59, 29), api.ErrFull)
	wantErr(t, "no node", m.graph.Add(0, api.MaxNodes), api.ErrRange)
	wantErr(t, "no node twice", m.graph.Add(-1, -1), api.ErrRange)
	wantErr(t, "one node", m.graph.Add(7, 7), api.ErrShape)
	wantErr(t, "there", m.graph.Add(1, 0), api.ErrClash)
	m.want(t, "full still")
	m.drop(t, 1, 0)
	m.want(t, "one fewer")
	m.add(t, 0, 30)
	wantErr(t, "the old one", m.graph.Add(0, 1), api.ErrFull)
	m.want(t, "full again")
	for len(m.edges) > 0 {
		m.drop(t, m.edges[len(m.edges)/2].B, m.edges[len(m.edges)/2].A)
		m.want(t, "fewer and fewer")
	}
}

// G1: ErrFull of few nodes that have all edges but some: as many as may be are there.
func TestFullOfFewNodes(t *testing.T) {
	m := newModel(t, 21)
	every := everyEdge(21)
	for i, e := range every {
		if i < api.MaxEdges {
			m.add(t, e.A, e.B)
		} else {
			wantErr(t, "one more", m.graph.Add(e.A, e.B), api.ErrFull)
		}
	}
	m.want(t, "full")
	small := newModel(t, 20)
	for _, e := range everyEdge(20) {
		small.add(t, e.A, e.B)
	}
	for _, e := range everyEdge(20) {
		wantErr(t, "there", small.graph.Add(e.A, e.B), api.ErrClash)
	}
	small.want(t, "all edges")
}

// G1, G2: Drop and Level of edges that never were, and that are gone.
func TestNone(t *testing.T) {
	m := newModel(t, 5)
	m.add(t, 0, 1)
	m.add(t, 1, 2)
	m.add(t, 2, 3)
	m.drop(t, 2, 3)
	for _, e := range [][2]int{{0, 2}, {2, 0}, {2, 3}, {3, 2}, {3, 4}, {0, 4}} {
		wantErr(t, "Drop", m.graph.Drop(e[0], e[1]), api.ErrNone)
		level, err := m.graph.Level(e[0], e[1])
		wantErr(t, "Level", err, api.ErrNone)
		if level != 0 {
			t.Errorf("Level%v tells %d beside its error", e, level)
		}
	}
	m.want(t, "none")
}

// G1, G2: an edge of Tree that is dropped without another way parts its part, and back again joins it.
func TestDropWithoutAnotherWay(t *testing.T) {
	for _, n := range []int{2, 3, 8, 31, api.MaxNodes} {
		m := newModel(t, n)
		for a := 1; a < n; a++ {
			m.add(t, a-1, a)
		}
		for a := 1; a < n; a++ {
			m.drop(t, a, a-1)
			m.want(t, "parted")
			if got, err := m.graph.Joined(a-1, a); got || err != nil {
				t.Fatalf("Joined(%d, %d): %v %v", a-1, a, got, err)
			}
			m.add(t, a, a-1)
			m.want(t, "joined again")
		}
	}
}

// G1, G2: an edge of Tree that is dropped with another way: nobody is parted.
func TestDropWithAnotherWay(t *testing.T) {
	for _, n := range []int{3, 4, 8, 31, api.MaxNodes} {
		m := newModel(t, n)
		for a := range n {
			m.add(t, a, (a+1)%n)
		}
		for range 2 * n {
			e := m.graph.Tree()[n/2]
			m.drop(t, e.B, e.A)
			m.want(t, "another way")
			if got, err := m.graph.Joined(e.A, e.B); !got || err != nil {
				t.Fatalf("Joined(%d, %d): %v %v", e.A, e.B, got, err)
			}
			m.add(t, e.A, e.B)
			m.want(t, "ring again")
		}
	}
}

// G1, G2: an edge that is not of Tree is dropped: Tree stays as it is.
func TestDropBesideTree(t *testing.T) {
	m := newModel(t, 12)
	for _, e := range everyEdge(12) {
		m.add(t, e.A, e.B)
	}
	tree := m.graph.Tree()
	for _, e := range everyEdge(12) {
		if slices.Contains(tree, e) {
			continue
		}
		m.drop(t, e.A, e.B)
		m.want(t, "beside")
		if got := m.graph.Tree(); !slices.Equal(got, tree) {
			t.Fatalf("Tree was %v, is %v", tree, got)
		}
	}
}

// G2: a Level is 0 again where an edge comes back, though it had risen ahead.
func TestLevelOfOneThatCameBack(t *testing.T) {
	m := risen(t)
	for _, e := range slices.Clone(m.edges) {
		if m.levels[e] == 0 {
			continue
		}
		m.drop(t, e.A, e.B)
		m.add(t, e.B, e.A) // asks for 0
		m.want(t, "came back")
	}
}

// risen gives a graph in which some edges have risen: parts that grow by halves, in which each edge of Tree was dropped.
func risen(t *testing.T) *model {
	t.Helper()
	m := newModel(t, 32)
	for _, e := range everyEdge(32) {
		if e.A^e.B < 4 || e.A%4 == 0 && e.B%4 == 0 && e.B-e.A < 16 {
			m.add(t, e.A, e.B)
		}
	}
	for range 3 {
		for _, e := range m.graph.Tree() {
			m.drop(t, e.A, e.B)
			m.want(t, "rising")
			m.add(t, e.A, e.B)
			m.want(t, "risen")
		}
	}
	return m
}

// The tests of Levels are not empty: some do rise.
func TestLevelsRise(t *testing.T) {
	if m := risen(t); m.highest() < 2 {
		t.Errorf("the highest Level is %d", m.highest())
	}
}

// G1, G2: every row of adds and drops of few nodes, as long as it is short.
func TestEveryShortRow(t *testing.T) {
	every := everyEdge(4)
	var row []api.Edge
	var walk func(rest int)
	walk = func(rest int) {
		m := newModel(t, 4)
		for i, e := range row {
			if i == len(row)-1 {
				m.want(t, "ahead of the last")
			}
			m.turn(t, e.A, e.B)
		}
		m.want(t, "every row")
		if rest == 0 {
			return
		}
		for _, e := range every {
			row = append(row, e)
			walk(rest - 1)
			row = row[:len(row)-1]
		}
	}
	walk(5)
}

// G1, G2: from all edges of few nodes, every order in which some of them go.
func TestEveryOrderOfDrops(t *testing.T) {
	for _, n := range []int{4, 5} {
		every := everyEdge(n)
		var row []api.Edge
		var walk func(rest int)
		walk = func(rest int) {
			m := newModel(t, n)
			for _, e := range every {
				m.add(t, e.B, e.A)
			}
			for _, e := range row {
				m.drop(t, e.A, e.B)
			}
			m.want(t, "every order")
			if rest == 0 {
				return
			}
			for _, e := range every {
				if slices.Contains(row, e) {
					continue
				}
				row = append(row, e)
				walk(rest - 1)
				row = row[:len(row)-1]
			}
		}
		walk(4)
	}
}

// anyPair gives two nodes of n, not the same.
func anyPair(r *rand.Rand, n int) (a, b int) {
	a, b = r.IntN(n), r.IntN(n-1)
	if b >= a {
		b++
	}
	return a, b
}

// G1, G2: many adds and drops of any kind, of few and of many edges; drops are mostly of Tree, as these alone move something.
func TestAny(t *testing.T) {
	high := 0
	for seed := range uint64(60) {
		r := rand.New(rand.NewPCG(seed, 5))
		n := 2 + r.IntN(api.MaxNodes-1)
		if seed%3 == 0 {
			n = 2 + r.IntN(8)
		}
		most := 1 + r.IntN(min(api.MaxEdges, 4*n, n*(n-1)/2))
		m := newModel(t, n)
		for range 250 {
			a, b := anyPair(r, n)
			if tree := m.graph.Tree(); len(m.edges) >= most || len(tree) > 0 && r.IntN(3) == 0 {
				e := tree[r.IntN(len(tree))]
				m.drop(t, e.B, e.A)
			} else {
				m.turn(t, a, b)
			}
			m.want(t, "any")
			high = max(high, m.highest())
		}
	}
	if high < 2 {
		t.Errorf("the highest Level was %d", high)
	}
}

// G1, G2: a thick graph of which edges of Tree go, one behind the other, till none is there.
func TestAllGo(t *testing.T) {
	for seed := range uint64(12) {
		r := rand.New(rand.NewPCG(seed, 6))
		n := []int{8, 16, 17, 32, 47, api.MaxNodes}[seed%6]
		m := newModel(t, n)
		for len(m.edges) < min(api.MaxEdges, n*(n-1)/2) {
			a, b := anyPair(r, n)
			if near := max(a, b) - min(a, b); near <= 1+r.IntN(n) && !slices.Contains(m.edges, api.Edge{A: min(a, b), B: max(a, b)}) {
				m.add(t, a, b)
			}
		}
		for tree := m.graph.Tree(); len(tree) > 0; tree = m.graph.Tree() {
			e := tree[r.IntN(len(tree))]
			m.drop(t, e.A, e.B)
			m.want(t, "all go")
		}
		if len(m.edges) != 0 {
			t.Fatalf("no Tree of %v", m.edges)
		}
	}
}

// told is all that may be free, and so could hang on something that it may not.
func told(t *testing.T, g *Graph) []api.Heavy {
	t.Helper()
	var out []api.Heavy
	for _, e := range g.Tree() {
		out = append(out, api.Heavy{Edge: e, Weight: -1})
	}
	for _, e := range g.Edges() {
		level, err := g.Level(e.A, e.B)
		if err != nil {
			t.Fatalf("Level of %v: %v", e, err)
		}
		out = append(out, api.Heavy{Edge: e, Weight: level})
	}
	return out
}

// P2: the same calls tell the same Tree and Levels; questions, and calls that are wrong, change nothing.
func TestSameCallsSameAnswers(t *testing.T) {
	for seed := range uint64(8) {
		r := rand.New(rand.NewPCG(seed, 7))
		n := 20 + r.IntN(41)
		first, second := newModel(t, n), newModel(t, n)
		for range 300 {
			a, b := anyPair(r, n)
			if tree := first.graph.Tree(); len(first.edges) >= 2*n {
				e := tree[r.IntN(len(tree))]
				a, b = e.A, e.B
			}
			first.turn(t, a, b)
			second.turn(t, a, b)
			before := told(t, first.graph)
			if other := told(t, second.graph); !slices.Equal(before, other) {
				t.Fatalf("the same calls tell %v and %v", before, other)
			}
			ask(first.graph, a, b)
			ask(first.graph, a, -1)
			if behind := told(t, first.graph); !slices.Equal(before, behind) {
				t.Fatalf("asked: was %v, is %v", before, behind)
			}
		}
	}
}

// ask all, and call what is refused; a and b are two nodes, or not both are.
func ask(g *Graph, a, b int) {
	_, _ = g.Has(a, b)
	_, _ = g.Joined(a, b)
	_, _ = g.Size(b)
	_, _ = g.Level(a, b)
	_, _, _ = g.Edges(), g.Tree(), g.Parts()
	if there, err := g.Has(a, b); there || err != nil {
		_ = g.Add(a, b)
	} else {
		_ = g.Drop(a, b)
	}
	_ = g.Add(a, a)
	_ = g.Drop(a, a)
}

// P2: what is told is the caller's: written into, to behind its length, it changes nothing that is told else.
func TestToldIsFresh(t *testing.T) {
	m := newModel(t, 9)
	for _, e := range everyEdge(9) {
		m.add(t, e.A, e.B)
	}
	edges, tree := m.graph.Edges(), m.graph.Tree()
	for _, l := range [][]api.Edge{m.graph.Edges(), m.graph.Tree()} {
		l = l[:cap(l)]
		for i := range l {
			l[i] = api.Edge{A: 77, B: -77}
		}
	}
	if !slices.Equal(edges, m.graph.Edges()) || !slices.Equal(tree, m.graph.Tree()) {
		t.Error("what is told shares memory")
	}
	m.want(t, "written into")
}

// P2: two graphs share nothing.
func TestTwoGraphs(t *testing.T) {
	first, second := newModel(t, 6), newModel(t, 6)
	first.add(t, 0, 1)
	second.add(t, 1, 2)
	first.add(t, 1, 2)
	second.drop(t, 1, 2)
	first.want(t, "first")
	second.want(t, "second")
}
