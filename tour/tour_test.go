package tour

import (
	"math"
	"math/rand/v2"
	"slices"
	"testing"

	"footbridge/api"
	"footbridge/plain"
)

func mustNew(t *testing.T, n int) *Forest {
	t.Helper()
	f, err := New(n)
	if err != nil || f == nil {
		t.Fatalf("New(%d): %v %v", n, f, err)
	}
	return f
}

func mustLink(t *testing.T, f *Forest, a, b int) {
	t.Helper()
	if err := f.Link(a, b); err != nil {
		t.Fatalf("Link(%d, %d): %v", a, b, err)
	}
}

func mustCut(t *testing.T, f *Forest, a, b int) {
	t.Helper()
	if err := f.Cut(a, b); err != nil {
		t.Fatalf("Cut(%d, %d): %v", a, b, err)
	}
}

func wantErr(t *testing.T, name string, err error, want api.Errno) {
	t.Helper()
	if got := plain.Told(err); got != want {
		t.Errorf("%s: error %v, want %v", name, got, want)
	}
}

// beyond gives numbers that are none from low to high.
func beyond(low, high int) []int {
	return []int{low - 1, low - 2, high + 1, high + 2, high + 1000, -high - 1000, 1 << 32, 1<<32 + 1, -1 << 32, math.MinInt, math.MinInt + 1, math.MaxInt, math.MaxInt - 1}
}

// sorted gives the edges with the lesser node first, rising by A, then B; plainly, by going through all that may be.
func sorted(edges []api.Edge) []api.Edge {
	out := []api.Edge{}
	for a := range api.MaxNodes {
		for b := a + 1; b < api.MaxNodes; b++ {
			if slices.Contains(edges, api.Edge{A: a, B: b}) || slices.Contains(edges, api.Edge{A: b, B: a}) {
				out = append(out, api.Edge{A: a, B: b})
			}
		}
	}
	return out
}

// names gives for each of n nodes the least node that it is in one tree with; plainly, by the edges, till nothing changes.
func names(n int, edges []api.Edge) []int {
	l := make([]int, n)
	for i := range l {
		l[i] = i
	}
	for changed := true; changed; {
		changed = false
		for _, e := range edges {
			if least := min(l[e.A], l[e.B]); l[e.A] != l[e.B] {
				l[e.A], l[e.B], changed = least, least, true
			}
		}
	}
	return l
}

func with(names []int, name int) []int {
	var out []int
	for a, x := range names {
		if x == name {
			out = append(out, a)
		}
	}
	return out
}

// wantForest asks all that a forest tells, of every node and every two.
func wantForest(t *testing.T, what string, f *Forest, n int, edges []api.Edge) {
	t.Helper()
	if got, want := f.Edges(), sorted(edges); !slices.Equal(got, want) {
		t.Fatalf("%s: Edges %v, want %v", what, got, want)
	}
	names := names(n, edges)
	for a := range n {
		want := with(names, names[a])
		if got, err := f.Members(a); !slices.Equal(got, want) || err != nil {
			t.Fatalf("%s: Members(%d): %v %v, want %v", what, a, got, err, want)
		}
		if got, err := f.Size(a); got != len(want) || err != nil {
			t.Fatalf("%s: Size(%d): %d %v, want %d", what, a, got, err, len(want))
		}
		for b := range n {
			if got, err := f.Same(a, b); got != (names[a] == names[b]) || err != nil {
				t.Fatalf("%s: Same(%d, %d): %v %v", what, a, b, got, err)
			}
		}
	}
	wantWays(t, what, f, n, len(edges))
}

// wantWays goes each way around: each item begins where the one ahead ends, and all of them have each node once, each edge there and back, and nothing else.
func wantWays(t *testing.T, what string, f *Forest, n, edges int) {
	t.Helper()
	var all []int
	for _, way := range f.ways {
		l := way.List()
		at := to(n, l[len(l)-1])
		for _, item := range l {
			if begin(n, item) != at {
				t.Fatalf("%s: the way %v of %d nodes has a gap ahead of %d", what, l, n, item)
			}
			at = to(n, item)
		}
		all = append(all, l...)
	}
	var want []int
	for a := range n {
		want = append(want, a)
	}
	for _, e := range f.Edges() {
		want = append(want, (e.A+1)*n+e.B, (e.B+1)*n+e.A)
	}
	slices.Sort(all)
	slices.Sort(want)
	if !slices.Equal(all, want) || len(f.ways) != n-edges {
		t.Fatalf("%s: %d ways have %v, want %d with %v", what, len(f.ways), all, n-edges, want)
	}
}

// begin and to: where an item of a way begins and ends, a node's at that node.
func begin(n, item int) int {
	if item < n {
		return item
	}
	return item/n - 1
}

func to(n, item int) int { return item % n }

// T1: New at every n that may be: each node a tree of its own, and no edge.
func TestNew(t *testing.T) {
	for n := 1; n <= api.MaxNodes; n++ {
		wantForest(t, "New", mustNew(t, n), n, nil)
	}
}

// T1: New at n that may not be.
func TestNewBeyond(t *testing.T) {
	for _, n := range beyond(1, api.MaxNodes) {
		f, err := New(n)
		wantErr(t, "New", err, api.ErrRange)
		if f != nil {
			t.Errorf("New(%d) gives a forest beside its error", n)
		}
	}
}

// T1: nodes at the edges are there, at every n, in both orders.
func TestNodesAtTheEdges(t *testing.T) {
	for n := 2; n <= api.MaxNodes; n++ {
		f := mustNew(t, n)
		for _, e := range []api.Edge{{A: 0, B: n - 1}, {A: n - 1, B: 0}} {
			mustLink(t, f, e.A, e.B)
			wantForest(t, "linked", f, n, []api.Edge{e})
			mustCut(t, f, e.A, e.B)
			wantForest(t, "cut", f, n, nil)
		}
	}
}

// T1: nodes that there are not, as either of two or both: ErrRange, ahead of ErrClash and ErrNone; nothing is told, and nothing changes.
func TestNodesBeyond(t *testing.T) {
	for _, n := range []int{1, 2, 3, 59, api.MaxNodes} {
		f := mustNew(t, n)
		var edges []api.Edge
		if n > 1 {
			mustLink(t, f, 0, n-1)
			edges = append(edges, api.Edge{A: 0, B: n - 1})
		}
		for _, x := range beyond(0, n-1) {
			for _, pair := range [][2]int{{x, 0}, {0, x}, {n - 1, x}, {x, n - 1}, {x, x}, {x, -1}, {-1, x}} {
				wantErr(t, "Link", f.Link(pair[0], pair[1]), api.ErrRange)
				wantErr(t, "Cut", f.Cut(pair[0], pair[1]), api.ErrRange)
				same, err := f.Same(pair[0], pair[1])
				wantErr(t, "Same", err, api.ErrRange)
				if same {
					t.Errorf("Same%v of %d nodes tells true beside its error", pair, n)
				}
			}
			size, err := f.Size(x)
			wantErr(t, "Size", err, api.ErrRange)
			members, errM := f.Members(x)
			wantErr(t, "Members", errM, api.ErrRange)
			if size != 0 || members != nil {
				t.Errorf("of node %d of %d: Size %d, Members %v beside their errors", x, n, size, members)
			}
		}
		wantForest(t, "behind wrong nodes", f, n, edges)
	}
}

// T1: a Link of two nodes of one tree, joined by an edge or by a longer way, in both orders, or of a node with itself.
func TestLinkInOneTree(t *testing.T) {
	f := mustNew(t, 6)
	edges := []api.Edge{{A: 0, B: 1}, {A: 1, B: 2}, {A: 2, B: 3}, {A: 4, B: 5}}
	for _, e := range edges {
		mustLink(t, f, e.A, e.B)
	}
	for a := range 6 {
		for b := range 6 {
			if (a < 4) == (b < 4) {
				wantErr(t, "Link", f.Link(a, b), api.ErrClash)
			}
		}
	}
	wantForest(t, "not linked", f, 6, edges)
}

// T1: a Cut of what is no edge: of two nodes in one tree or in two, of a node with itself, or cut already.
func TestCutNone(t *testing.T) {
	f := mustNew(t, 5)
	mustLink(t, f, 0, 1)
	mustLink(t, f, 2, 1)
	edges := []api.Edge{{A: 0, B: 1}, {A: 1, B: 2}}
	for a := range 5 {
		for b := range 5 {
			if !slices.Contains(edges, edgeOf(a, b)) {
				wantErr(t, "Cut", f.Cut(a, b), api.ErrNone)
			}
		}
	}
	wantForest(t, "not cut", f, 5, edges)
	mustCut(t, f, 1, 0)
	wantErr(t, "Cut again", f.Cut(1, 0), api.ErrNone)
	wantErr(t, "Cut again, the other way", f.Cut(0, 1), api.ErrNone)
	wantForest(t, "cut once", f, 5, edges[1:])
}

// T1: an edge is one and the same in both orders of its nodes.
func TestBothOrders(t *testing.T) {
	for _, link := range [][2]int{{3, 1}, {1, 3}} {
		for _, cut := range [][2]int{{3, 1}, {1, 3}} {
			f := mustNew(t, 4)
			mustLink(t, f, link[0], link[1])
			wantForest(t, "linked", f, 4, []api.Edge{{A: 1, B: 3}})
			mustCut(t, f, cut[0], cut[1])
			wantForest(t, "cut", f, 4, nil)
		}
	}
}

// T1: Members and Edges rise, in whatever order nodes came in; of equal A by B.
func TestRising(t *testing.T) {
	f := mustNew(t, 12)
	for _, e := range [][2]int{{11, 2}, {2, 10}, {9, 2}, {0, 11}, {5, 0}, {3, 0}} {
		mustLink(t, f, e[0], e[1])
	}
	members, err := f.Members(9)
	if want := []int{0, 2, 3, 5, 9, 10, 11}; !slices.Equal(members, want) || err != nil {
		t.Errorf("Members: %v %v, want %v", members, err, want)
	}
	want := []api.Edge{{A: 0, B: 3}, {A: 0, B: 5}, {A: 0, B: 11}, {A: 2, B: 9}, {A: 2, B: 10}, {A: 2, B: 11}}
	if got := f.Edges(); !slices.Equal(got, want) {
		t.Errorf("Edges: %v, want %v", got, want)
	}
}

// shapes of trees with n nodes: a chain up and down, a star from within and from without, branches by halves, and one that is mixed.
func shapes(n int) [][]api.Edge {
	all := make([][]api.Edge, 6)
	for i := 1; i < n; i++ {
		for k, e := range []api.Edge{{A: i - 1, B: i}, {A: n - i, B: n - i - 1}, {A: 0, B: i}, {A: i - 1, B: n - 1}, {A: i, B: (i - 1) / 2}, {A: (i * i * 7) % i, B: i}} {
			all[k] = append(all[k], e)
		}
	}
	return all
}

// T1: trees of all nodes, in many shapes: linked edge by edge, and then cut in the same order and backwards, till each node is alone.
func TestShapes(t *testing.T) {
	for _, n := range []int{1, 2, 3, 7, 8, api.MaxNodes} {
		for _, edges := range shapes(n) {
			f := mustNew(t, n)
			for i, e := range edges {
				mustLink(t, f, e.A, e.B)
				wantForest(t, "forth", f, n, edges[:i+1])
			}
			for i, e := range edges {
				mustCut(t, f, e.A, e.B)
				wantForest(t, "off its beginning", f, n, edges[i+1:])
			}
			for _, e := range edges {
				mustLink(t, f, e.B, e.A)
			}
			for i, e := range slices.Backward(edges) {
				mustCut(t, f, e.B, e.A)
				wantForest(t, "back", f, n, edges[:i])
			}
		}
	}
}

// T1: behind a Cut with a Link behind it all is as it was, of every edge, in all orders of its nodes.
func TestCutAndLink(t *testing.T) {
	for _, n := range []int{2, 9, api.MaxNodes} {
		for _, edges := range shapes(n) {
			f := mustNew(t, n)
			for _, e := range edges {
				mustLink(t, f, e.A, e.B)
			}
			for i, e := range edges {
				mustCut(t, f, e.A, e.B)
				wantForest(t, "cut", f, n, slices.Delete(slices.Clone(edges), i, i+1))
				mustLink(t, f, e.A, e.B)
				wantForest(t, "linked again", f, n, edges)
				mustCut(t, f, e.B, e.A)
				mustLink(t, f, e.B, e.A)
			}
			wantForest(t, "all linked again", f, n, edges)
		}
	}
}

// often links and cuts in any order, and holds what is told against what goes through all edges.
func often(t *testing.T, n int, r *rand.Rand) {
	t.Helper()
	f := mustNew(t, n)
	var edges []api.Edge
	for range 250 {
		a, b := r.IntN(n), r.IntN(n)
		if len(edges) > 0 && r.IntN(3) == 0 {
			e := edges[r.IntN(len(edges))]
			a, b = e.B, e.A
		}
		i := slices.IndexFunc(edges, func(e api.Edge) bool { return edgeOf(e.A, e.B) == edgeOf(a, b) })
		names := names(n, edges)
		switch {
		case r.IntN(5) < 2 && i < 0:
			wantErr(t, "Cut", f.Cut(a, b), api.ErrNone)
		case i >= 0:
			mustCut(t, f, a, b)
			edges = slices.Delete(edges, i, i+1)
		case names[a] == names[b]:
			wantErr(t, "Link", f.Link(a, b), api.ErrClash)
		default:
			mustLink(t, f, a, b)
			edges = append(edges, api.Edge{A: a, B: b})
		}
		wantForest(t, "often", f, n, edges)
	}
}

// T1: Links and Cuts in any order, right and wrong ones.
func TestOften(t *testing.T) {
	for seed := range uint64(24) {
		r := rand.New(rand.NewPCG(seed, 3))
		often(t, 1+r.IntN(api.MaxNodes), r)
		often(t, 1+r.IntN(6), r)
	}
}

// P2: what is told is the caller's: written into, it changes nothing that is told later.
func TestToldIsFresh(t *testing.T) {
	f := mustNew(t, 4)
	edges := []api.Edge{{A: 0, B: 3}, {A: 1, B: 3}}
	for _, e := range edges {
		mustLink(t, f, e.A, e.B)
	}
	for a := range 4 {
		members, _ := f.Members(a)
		for i := range members[:cap(members)] {
			members[:cap(members)][i] = 2
		}
	}
	for i, told := 0, f.Edges(); i < len(told); i++ {
		told[i] = api.Edge{A: 2, B: 2}
	}
	wantForest(t, "written into", f, 4, edges)
	mustCut(t, f, 0, 3)
	wantForest(t, "cut", f, 4, edges[1:])
}

// P2: two forests have nothing of each other.
func TestTwoForests(t *testing.T) {
	f, g := mustNew(t, 3), mustNew(t, 3)
	mustLink(t, f, 0, 1)
	mustLink(t, g, 1, 2)
	wantForest(t, "f", f, 3, []api.Edge{{A: 0, B: 1}})
	wantForest(t, "g", g, 3, []api.Edge{{A: 1, B: 2}})
	mustCut(t, f, 0, 1)
	wantForest(t, "f cut", f, 3, nil)
	wantForest(t, "g still", g, 3, []api.Edge{{A: 1, B: 2}})
}
