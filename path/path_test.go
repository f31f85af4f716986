package path

import (
	"math"
	"math/rand/v2"
	"slices"
	"testing"

	"footbridge/api"
	"footbridge/asks"
	"footbridge/bridge"
	"footbridge/graph"
	"footbridge/plain"
)

func edge(a, b int) api.Edge { return api.Edge{A: min(a, b), B: max(a, b)} }

// rising gives edges in the order in which they may be handed in, each once.
func rising(l ...api.Edge) []api.Edge {
	slices.SortFunc(l, func(x, y api.Edge) int {
		if x.A != y.A {
			return x.A - y.A
		}
		return x.B - y.B
	})
	return slices.Compact(l)
}

// all gives all edges of n nodes, rising.
func all(n int) []api.Edge {
	var l []api.Edge
	for a := range n {
		for b := a + 1; b < n; b++ {
			l = append(l, api.Edge{A: a, B: b})
		}
	}
	return l
}

// line gives the edges of a line through these nodes.
func line(nodes ...int) []api.Edge {
	var l []api.Edge
	for i := range len(nodes) - 1 {
		l = append(l, edge(nodes[i], nodes[i+1]))
	}
	return rising(l...)
}

// ring gives the edges of a ring through these nodes.
func ring(nodes ...int) []api.Edge {
	return rising(append(line(nodes...), edge(nodes[0], nodes[len(nodes)-1]))...)
}

// star gives the edges of a star of n nodes.
func star(n, mid int) []api.Edge {
	var l []api.Edge
	for a := range n {
		if a != mid {
			l = append(l, edge(a, mid))
		}
	}
	return rising(l...)
}

// both gives the edges of all these lists together.
func both(lists ...[]api.Edge) []api.Edge { return rising(slices.Concat(lists...)...) }

// upTo gives the numbers from low on, ahead of high.
func upTo(low, high int) []int {
	var l []int
	for i := low; i < high; i++ {
		l = append(l, i)
	}
	return l
}

// beyond gives numbers that are none from low to high.
func beyond(low, high int) []int {
	return []int{low - 1, low - 2, high + 1, high + 2, high + 1000, -high - 1000, 1 << 32, 1<<32 + 1, -1 << 32, math.MinInt, math.MinInt + 1, math.MaxInt, math.MaxInt - 1}
}

// wantShort asks for a way; of an error there is none beside it.
func wantShort(t *testing.T, n int, l []api.Edge, a, b int, want []int, told api.Errno) {
	t.Helper()
	if got, err := Short(n, l, a, b); !slices.Equal(got, want) || plain.Told(err) != told {
		t.Fatalf("Short(%d, %v, %d, %d): %v %v, want %v %v", n, l, a, b, got, err, want, told)
	}
}

// wantFar asks how far all nodes are.
func wantFar(t *testing.T, n int, l []api.Edge, a int, want []int, told api.Errno) {
	t.Helper()
	if got, err := Far(n, l, a); !slices.Equal(got, want) || plain.Told(err) != told {
		t.Fatalf("Far(%d, %v, %d): %v %v, want %v %v", n, l, a, got, err, want, told)
	}
}

// wantNoRing asks for a ring where there is none, or where something is wrong.
func wantNoRing(t *testing.T, n int, l []api.Edge, told api.Errno) {
	t.Helper()
	if got, err := Ring(n, l); len(got) != 0 || plain.Told(err) != told {
		t.Fatalf("Ring(%d, %v): %v %v, want %v", n, l, got, err, told)
	}
}

// isRing tells whether nodes are a ring by these edges.
func isRing(l []api.Edge, nodes []int) bool {
	if len(nodes) < 3 {
		return false
	}
	for i, a := range nodes {
		if slices.Contains(nodes[:i], a) || !slices.Contains(l, edge(a, nodes[(i+1)%len(nodes)])) {
			return false
		}
	}
	return true
}

// wantRing asks for a ring where there is one, and gives it.
func wantRing(t *testing.T, n int, l []api.Edge) []int {
	t.Helper()
	got, err := Ring(n, l)
	if err != nil || !isRing(l, got) {
		t.Fatalf("Ring(%d, %v): %v %v, want a ring", n, l, got, err)
	}
	return got
}

// wantWrong asks all faces of a graph that is wrong: Check's error is told, whatever a and b are.
func wantWrong(t *testing.T, n int, l []api.Edge, told api.Errno) {
	t.Helper()
	if _, err := bridge.Check(n, l); plain.Told(err) != told {
		t.Fatalf("Check(%d, %v): %v, want %v", n, l, err, told)
	}
	for _, a := range []int{0, 1, n - 1, n, -1, math.MinInt, math.MaxInt} {
		wantFar(t, n, l, a, nil, told)
		for _, b := range []int{a, 0, n - 1, n, -1, math.MaxInt} {
			wantShort(t, n, l, a, b, nil, told)
		}
	}
	wantNoRing(t, n, l, told)
}

// tryAll tries all ways without a node twice that go on from way, and keeps of each node the best one that ends there: of fewest nodes, and of several such the first. It tells whether one of them can be closed to a ring.
func tryAll(joined *[8][8]bool, n int, way []int, best [][]int) bool {
	last := way[len(way)-1]
	was := best[last]
	if was == nil || len(way) < len(was) || len(way) == len(was) && slices.Compare(way, was) < 0 {
		best[last] = slices.Clone(way)
	}
	closed := len(way) > 2 && joined[last][way[0]]
	for b := range n {
		if joined[last][b] && !slices.Contains(way, b) {
			closed = tryAll(joined, n, append(way, b), best) || closed
		}
	}
	return closed
}

// wantTried asks all of a small graph, held against all ways tried.
func wantTried(t *testing.T, n int, l []api.Edge) {
	t.Helper()
	var joined [8][8]bool
	for _, e := range l {
		joined[e.A][e.B], joined[e.B][e.A] = true, true
	}
	closed := false
	for a := range n {
		best := make([][]int, n)
		closed = tryAll(&joined, n, append(make([]int, 0, n), a), best) || closed
		lengths := make([]int, n)
		for b, way := range best {
			lengths[b] = len(way) - 1
			if way == nil {
				wantShort(t, n, l, a, b, nil, api.ErrNone)
			} else {
				wantShort(t, n, l, a, b, way, api.OK)
			}
		}
		wantFar(t, n, l, a, lengths, api.OK)
	}
	if closed {
		wantRing(t, n, l)
	} else {
		wantNoRing(t, n, l, api.ErrNone)
	}
}

// bestWays gives of each node the first of the shortest ways from a to it, or nil: a way over each edge is held against the one that is there, as whole lists, till nothing changes.
func bestWays(n int, l []api.Edge, a int) [][]int {
	best := make([][]int, n)
	best[a] = []int{a}
	over := func(x, y int) bool {
		if best[x] == nil {
			return false
		}
		way := append(slices.Clone(best[x]), y)
		worse := best[y] == nil || len(best[y]) > len(way) || len(best[y]) == len(way) && slices.Compare(best[y], way) > 0
		if worse {
			best[y] = way
		}
		return worse
	}
	for changed := true; changed; {
		changed = false
		for _, e := range l {
			changed = over(e.A, e.B) || changed
			changed = over(e.B, e.A) || changed
		}
	}
	return best
}

// hasRing takes edges away at whose one end no other is; what is left then has a ring.
func hasRing(n int, l []api.Edge) bool {
	for range n {
		ends := make([]int, n)
		for _, e := range l {
			ends[e.A]++
			ends[e.B]++
		}
		l = slices.DeleteFunc(slices.Clone(l), func(e api.Edge) bool { return ends[e.A] == 1 || ends[e.B] == 1 })
	}
	return len(l) > 0
}

// wantAll asks all of a graph of any size.
func wantAll(t *testing.T, n int, l []api.Edge) {
	t.Helper()
	for a := range n {
		lengths := make([]int, n)
		for b, way := range bestWays(n, l, a) {
			lengths[b] = len(way) - 1
			if way == nil {
				wantShort(t, n, l, a, b, nil, api.ErrNone)
			} else {
				wantShort(t, n, l, a, b, way, api.OK)
			}
		}
		wantFar(t, n, l, a, lengths, api.OK)
	}
	if hasRing(n, l) {
		wantRing(t, n, l)
	} else {
		wantNoRing(t, n, l, api.ErrNone)
	}
}

// anyEdges gives at most k edges of n nodes, rising.
func anyEdges(r *rand.Rand, n, k int) []api.Edge {
	edges := all(n)
	r.Shuffle(len(edges), func(i, j int) { edges[i], edges[j] = edges[j], edges[i] })
	return rising(edges[:min(k, len(edges), api.MaxEdges)]...)
}

// W1: an ordinary graph, what is told written out.
func TestOrdinary(t *testing.T) {
	l := []api.Edge{{A: 0, B: 1}, {A: 0, B: 2}, {A: 1, B: 3}, {A: 2, B: 3}, {A: 3, B: 4}, {A: 6, B: 7}}
	wantShort(t, 8, l, 0, 4, []int{0, 1, 3, 4}, api.OK)
	wantShort(t, 8, l, 4, 0, []int{4, 3, 1, 0}, api.OK)
	wantShort(t, 8, l, 2, 1, []int{2, 0, 1}, api.OK)
	wantShort(t, 8, l, 1, 2, []int{1, 0, 2}, api.OK)
	wantShort(t, 8, l, 7, 6, []int{7, 6}, api.OK)
	wantShort(t, 8, l, 0, 5, nil, api.ErrNone)
	wantShort(t, 8, l, 5, 0, nil, api.ErrNone)
	wantShort(t, 8, l, 4, 6, nil, api.ErrNone)
	wantFar(t, 8, l, 0, []int{0, 1, 1, 2, 3, -1, -1, -1}, api.OK)
	wantFar(t, 8, l, 4, []int{3, 2, 2, 1, 0, -1, -1, -1}, api.OK)
	wantFar(t, 8, l, 5, []int{-1, -1, -1, -1, -1, 0, -1, -1}, api.OK)
	wantFar(t, 8, l, 7, []int{-1, -1, -1, -1, -1, -1, 1, 0}, api.OK)
	if got := slices.Sorted(slices.Values(wantRing(t, 8, l))); !slices.Equal(got, []int{0, 1, 2, 3}) {
		t.Errorf("Ring: %v, want the one of 0 to 3", got)
	}
}

// W1: no edge at all, as nil and as an empty list, at every n that may be.
func TestNoEdge(t *testing.T) {
	for n := 1; n <= api.MaxNodes; n++ {
		for _, l := range [][]api.Edge{nil, {}} {
			for _, a := range []int{0, n / 2, n - 1} {
				want := slices.Repeat([]int{-1}, n)
				want[a] = 0
				wantFar(t, n, l, a, want, api.OK)
				wantShort(t, n, l, a, a, []int{a}, api.OK)
				if n > 1 {
					wantShort(t, n, l, a, (a+1)%n, nil, api.ErrNone)
				}
			}
			wantNoRing(t, n, l, api.ErrNone)
		}
	}
}

// W1: n that may not be: ErrRange, ahead of all that may be wrong with the edges.
func TestNodesBeyond(t *testing.T) {
	for _, n := range append(beyond(1, api.MaxNodes), 0, 61) {
		for _, l := range [][]api.Edge{nil, {}, {edge(0, 1)}, ring(0, 1, 2), all(30), {edge(0, 1), edge(0, 1)}} {
			wantWrong(t, n, l, api.ErrRange)
		}
	}
}

// W1: as many edges as may be, and one more: ErrFull, ahead of all that may be wrong with one.
func TestManyEdges(t *testing.T) {
	for _, n := range []int{21, 59, api.MaxNodes} {
		wantAll(t, n, all(n)[:api.MaxEdges])
		wantAll(t, n, all(n)[len(all(n))-api.MaxEdges:])
		for _, k := range []int{201, 202, len(all(n))} {
			wantWrong(t, n, all(n)[:k], api.ErrFull)
		}
		l := all(n)[:201]
		l[0], l[1] = api.Edge{A: -1, B: n}, api.Edge{A: 1, B: 0}
		wantWrong(t, n, l, api.ErrFull)
	}
	wantWrong(t, 1, slices.Repeat([]api.Edge{{}}, 201), api.ErrFull)
	wantWrong(t, 1, slices.Repeat([]api.Edge{{}}, 200), api.ErrRange)
}

// W1: edges that are wrong, each alone and behind a ring that would be found: Check's error.
func TestWrongEdges(t *testing.T) {
	for _, n := range []int{3, 4, 59, api.MaxNodes} {
		for _, x := range beyond(0, n-1) {
			for _, e := range []api.Edge{{A: x, B: 1}, {A: 1, B: x}, {A: x, B: x}} {
				wantWrong(t, n, []api.Edge{e}, api.ErrRange)
				wantWrong(t, n, append(ring(0, 1, 2), e), api.ErrRange)
			}
		}
		for _, e := range []api.Edge{{}, {A: 2, B: 1}, {A: n - 1, B: n - 1}, {A: 0, B: n}, {A: n - 1, B: n}} {
			wantWrong(t, n, append(ring(0, 1, 2), e), api.ErrRange)
		}
		for _, e := range ring(0, 1, 2) {
			wantWrong(t, n, append(ring(0, 1, 2), e), api.ErrShape)
		}
		wantWrong(t, n, []api.Edge{edge(0, 1), edge(0, 1), {}}, api.ErrShape)
		wantWrong(t, n, []api.Edge{edge(0, 1), {}, edge(0, 1)}, api.ErrRange)
	}
	wantWrong(t, 1, line(0, 1), api.ErrRange)
	wantWrong(t, 2, ring(0, 1, 2), api.ErrRange)
}

// W1: a, or b, or both are no nodes: ErrRange, ahead of ErrNone.
func TestNoSuchNode(t *testing.T) {
	for _, n := range []int{1, 2, 3, 59, api.MaxNodes} {
		for _, l := range [][]api.Edge{nil, line(upTo(0, n)...)} {
			for _, x := range beyond(0, n-1) {
				wantFar(t, n, l, x, nil, api.ErrRange)
				for _, a := range []int{0, n - 1, x, -1, n} {
					wantShort(t, n, l, a, x, nil, api.ErrRange)
					wantShort(t, n, l, x, a, nil, api.ErrRange)
				}
			}
		}
	}
}

// W1: an edge from 0 to n - 1, at every n: the way is that edge.
func TestNodesAtTheEdges(t *testing.T) {
	for n := 2; n <= api.MaxNodes; n++ {
		l := line(0, n-1)
		wantShort(t, n, l, 0, n-1, []int{0, n - 1}, api.OK)
		wantShort(t, n, l, n-1, 0, []int{n - 1, 0}, api.OK)
		want := slices.Repeat([]int{-1}, n)
		want[0], want[n-1] = 0, 1
		wantFar(t, n, l, 0, want, api.OK)
		want[0], want[n-1] = 1, 0
		wantFar(t, n, l, n-1, want, api.OK)
		wantNoRing(t, n, l, api.ErrNone)
	}
}

// W1: what lies behind a list's length is no edge of it.
func TestBehindTheLength(t *testing.T) {
	l := []api.Edge{{A: 0, B: 1}, {A: 0, B: 2}, {A: 1, B: 2}, {A: 9, B: 9}}
	wantShort(t, 3, l[:1], 0, 2, nil, api.ErrNone)
	wantShort(t, 3, l[:2], 1, 2, []int{1, 0, 2}, api.OK)
	wantShort(t, 3, l[:3], 1, 2, []int{1, 2}, api.OK)
	wantFar(t, 3, l[:2], 1, []int{1, 0, 2}, api.OK)
	wantNoRing(t, 3, l[:2], api.ErrNone)
	wantRing(t, 3, l[:3])
	wantWrong(t, 3, l, api.ErrRange)
}

// W1: of several shortest ways the first, node by node: not that whose nodes behind are less, nor that which is found first from either end.
func TestFirstOfSeveral(t *testing.T) {
	two := both(line(0, 1, 4, 5), line(0, 2, 3, 5))
	wantShort(t, 6, two, 0, 5, []int{0, 1, 4, 5}, api.OK)
	wantShort(t, 6, two, 5, 0, []int{5, 3, 2, 0}, api.OK)
	third := both(line(0, 1, 4, 5), line(1, 3, 5), line(0, 2, 3))
	wantShort(t, 6, third, 0, 5, []int{0, 1, 3, 5}, api.OK)
	short := both(line(0, 1, 2, 3, 5), line(0, 4, 5))
	wantShort(t, 6, short, 0, 5, []int{0, 4, 5}, api.OK)
	dead := both(line(0, 1, 2), line(0, 3, 4))
	wantShort(t, 5, dead, 0, 4, []int{0, 3, 4}, api.OK)
	high := both(line(9, 3, 8, 0), line(9, 4, 1, 0), line(9, 5, 2, 0))
	wantShort(t, 10, high, 9, 0, []int{9, 3, 8, 0}, api.OK)
	wantShort(t, 10, high, 0, 9, []int{0, 1, 4, 9}, api.OK)
}

// W1: a way of layers, all edges between one and the next: the least node of each.
func TestLayers(t *testing.T) {
	const wide, deep = 4, 12
	var l []api.Edge
	for x := range deep - 1 {
		for i := range wide {
			for j := range wide {
				l = append(l, edge(x*wide+i, (x+1)*wide+j))
			}
		}
	}
	l = rising(l...)
	n := wide * deep
	for i := range wide {
		want := []int{i}
		for x := 1; x < deep-1; x++ {
			want = append(want, x*wide)
		}
		wantShort(t, n, l, i, n-1, append(want, n-1), api.OK)
	}
	wantAll(t, n, l)
}

// W1: of a line there is one way, however its nodes stand in it, and no ring.
func TestLine(t *testing.T) {
	for n := 2; n <= api.MaxNodes; n++ {
		nodes := rand.New(rand.NewPCG(uint64(n), 1)).Perm(n)
		l := line(nodes...)
		wantShort(t, n, l, nodes[0], nodes[n-1], nodes, api.OK)
		want := make([]int, n)
		for i, a := range nodes {
			want[a] = i
		}
		wantFar(t, n, l, nodes[0], want, api.OK)
		wantNoRing(t, n, l, api.ErrNone)
	}
}

// W1: of a star all ways lead by its middle, and there is no ring.
func TestStar(t *testing.T) {
	for n := 3; n <= api.MaxNodes; n++ {
		for _, mid := range []int{0, n / 2, n - 1} {
			l := star(n, mid)
			a, b := (mid+1)%n, (mid+2)%n
			wantShort(t, n, l, a, b, []int{a, mid, b}, api.OK)
			want := slices.Repeat([]int{1}, n)
			want[mid] = 0
			wantFar(t, n, l, mid, want, api.OK)
			wantNoRing(t, n, l, api.ErrNone)
		}
	}
}

// W1: trees of several parts have no ring; one edge more within one of them makes one, between two of them none.
func TestTrees(t *testing.T) {
	for seed := range uint64(100) {
		r := rand.New(rand.NewPCG(seed, 2))
		n := 3 + r.IntN(api.MaxNodes-2)
		nodes := r.Perm(n)
		var l []api.Edge
		for i := 1; i < n; i++ {
			if r.IntN(5) > 0 { // else another tree begins
				l = append(l, edge(nodes[i], nodes[r.IntN(i)]))
			}
		}
		l = rising(l...)
		wantNoRing(t, n, l, api.ErrNone)
		a, b := nodes[0], nodes[1+r.IntN(n-1)]
		if slices.Contains(l, edge(a, b)) {
			continue
		}
		way, err := Short(n, l, a, b)
		more := both(l, line(a, b))
		if err != nil {
			wantNoRing(t, n, more, api.ErrNone)
			continue
		}
		got := wantRing(t, n, more)
		slices.Sort(got)
		slices.Sort(way)
		if !slices.Equal(got, way) {
			t.Errorf("Ring(%d, %v): %v, want the one of %v", n, more, got, way)
		}
	}
}

// W1: a ring alone is found whole, at every length, however its nodes stand in it.
func TestRingAlone(t *testing.T) {
	for n := 3; n <= api.MaxNodes; n++ {
		for seed := range uint64(3) {
			l := ring(rand.New(rand.NewPCG(uint64(n), seed)).Perm(n)...)
			if got := wantRing(t, n, l); len(got) != n {
				t.Errorf("Ring(%d, %v): %v, want all nodes", n, l, got)
			}
		}
	}
}

// W1: a ring in the second part alone, rings with lines that hang on them, rings that share a node or an edge.
func TestRings(t *testing.T) {
	second := both(line(0, 1, 2), ring(4, 6, 5))
	if got := slices.Sorted(slices.Values(wantRing(t, 8, second))); !slices.Equal(got, []int{4, 5, 6}) {
		t.Errorf("Ring: %v, want the one of 4 to 6", got)
	}
	tail := both(line(0, 1, 2, 9), ring(9, 5, 7, 6), line(7, 8, 3))
	if got := slices.Sorted(slices.Values(wantRing(t, 10, tail))); !slices.Equal(got, []int{5, 6, 7, 9}) {
		t.Errorf("Ring: %v, want the one of 5, 6, 7 and 9", got)
	}
	wantTried(t, 5, both(ring(0, 1, 2), ring(2, 3, 4)))
	wantTried(t, 7, both(ring(0, 4, 2, 6), ring(1, 3, 4, 5)))
	wantTried(t, 4, both(ring(0, 1, 2, 3), line(0, 2)))
	wantTried(t, 6, both(ring(0, 1, 2, 3), ring(2, 3, 4, 5)))
	wantTried(t, 6, both(ring(0, 1, 2), ring(3, 4, 5)))
	wantTried(t, 7, all(7))
	wantAll(t, 20, all(20))
}

// W1: every graph of few nodes, all ways tried.
func TestEveryGraph(t *testing.T) {
	for n := 1; n <= 6; n++ {
		edges := all(n)
		for bits := range 1 << len(edges) {
			var l []api.Edge
			for i, e := range edges {
				if bits>>i&1 == 1 {
					l = append(l, e)
				}
			}
			wantTried(t, n, l)
		}
	}
}

// W1: some graphs of eight nodes, all ways tried.
func TestSomeTried(t *testing.T) {
	for seed := range uint64(300) {
		r := rand.New(rand.NewPCG(seed, 3))
		wantTried(t, 8, anyEdges(r, 8, r.IntN(20)))
	}
}

// W1: edges of any kind, few and many.
func TestAny(t *testing.T) {
	for seed := range uint64(15) {
		r := rand.New(rand.NewPCG(seed, 4))
		for _, n := range []int{10 + r.IntN(40), api.MaxNodes} {
			for _, k := range []int{n / 2, n - 1, n + r.IntN(n), r.IntN(api.MaxEdges + 1)} {
				wantAll(t, n, anyEdges(r, n, k))
			}
		}
	}
}

// W1: from b to a is as far as from a to b, and a way has as many nodes as Far says and one more.
func TestThereAndBack(t *testing.T) {
	for seed := range uint64(20) {
		r := rand.New(rand.NewPCG(seed, 5))
		n := 2 + r.IntN(30)
		l := anyEdges(r, n, n+r.IntN(n))
		for a := range n {
			far, err := Far(n, l, a)
			if err != nil {
				t.Fatal(err)
			}
			for b := range n {
				there, _ := Short(n, l, a, b)
				back, _ := Short(n, l, b, a)
				if len(there) != far[b]+1 || len(back) != far[b]+1 {
					t.Errorf("%v: from %d to %d %v, back %v, as far as %d", l, a, b, there, back, far[b])
				}
			}
		}
	}
}

// W1, B1: there is a ring where an edge is no bridge, and all edges of a ring are none.
func TestRingsHaveNoBridge(t *testing.T) {
	for seed := range uint64(200) {
		r := rand.New(rand.NewPCG(seed, 6))
		n := 3 + r.IntN(40)
		l := anyEdges(r, n, r.IntN(n+n/2))
		bridges, err := bridge.Bridges(n, l)
		if err != nil {
			t.Fatal(err)
		}
		if len(bridges) == len(l) {
			wantNoRing(t, n, l, api.ErrNone)
			continue
		}
		for _, e := range ring(wantRing(t, n, l)...) {
			if slices.Contains(bridges, e) {
				t.Errorf("%v of %v is a bridge within a ring", e, l)
			}
		}
	}
}

// W1, G1, O1: who is joined is joined by a way, one by one and all at once, whatever came and went ahead.
func TestJoinedByAWay(t *testing.T) {
	for seed := range uint64(30) {
		r := rand.New(rand.NewPCG(seed, 7))
		n := 3 + r.IntN(12)
		g, err := graph.New(n)
		if err != nil {
			t.Fatal(err)
		}
		var events []api.Event
		var want []bool
		for len(events) < api.MaxEvents-1 {
			a, b := r.IntN(n), r.IntN(n)
			if a == b {
				continue
			}
			what := api.Add
			if g.Add(a, b) != nil { // it is there
				what = api.Drop
				if err := g.Drop(a, b); err != nil {
					t.Fatal(err)
				}
			}
			from, to := r.IntN(n), r.IntN(n)
			events = append(events, api.Event{What: what, A: a, B: b}, api.Event{What: api.Ask, A: from, B: to})
			_, err := Short(n, g.Edges(), from, to)
			want = append(want, err == nil)
			if joined, _ := g.Joined(from, to); joined != (err == nil) {
				t.Errorf("%v: joined %d and %d: %v, way: %v", g.Edges(), from, to, joined, err)
			}
		}
		if got, err := asks.Answers(n, events); err != nil || !slices.Equal(got, want) {
			t.Errorf("Answers(%d, %v): %v %v, want %v", n, events, got, err, want)
		}
	}
}

// P2: what is handed in stays as it is, within its length and behind it, and what comes out is the caller's.
func TestListsAreTheCallers(t *testing.T) {
	memory := append(ring(0, 1, 2, 3), edge(0, 0), edge(9, 9))
	was := slices.Clone(memory)
	l := memory[:4]
	for range 2 { // what is written into the answers is not there the second time
		way, err := Short(5, l, 0, 2)
		if err != nil || !slices.Equal(way, []int{0, 1, 2}) {
			t.Errorf("Short: %v %v", way, err)
		}
		far, err := Far(5, l, 0)
		if err != nil || !slices.Equal(far, []int{0, 1, 2, 1, -1}) {
			t.Errorf("Far: %v %v", far, err)
		}
		round, err := Ring(5, l)
		if err != nil || !isRing(l, round) {
			t.Errorf("Ring: %v %v", round, err)
		}
		for _, out := range [][]int{way, far, round} {
			for i := range out {
				out[i] = -7
			}
			_ = append(out, -7)
		}
	}
	if !slices.Equal(memory, was) {
		t.Errorf("what was handed in is %v, was %v", memory, was)
	}
}

// P2: a call answers the same each time: a ring, too, though which is told is free.
func TestSameAgain(t *testing.T) {
	for seed := range uint64(20) {
		r := rand.New(rand.NewPCG(seed, 8))
		l := anyEdges(r, 20, 60)
		first, err := Ring(20, l)
		if err != nil {
			t.Fatal(err)
		}
		for range 5 {
			if again, err := Ring(20, slices.Clone(l)); err != nil || !slices.Equal(again, first) {
				t.Errorf("Ring: %v %v, was %v", again, err, first)
			}
		}
	}
}
