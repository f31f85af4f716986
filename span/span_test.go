package span

import (
	"math"
	"math/rand/v2"
	"slices"
	"testing"

	"footbridge/api"
	"footbridge/plain"
)

func heavy(a, b, weight int) api.Heavy {
	return api.Heavy{Edge: api.Edge{A: a, B: b}, Weight: weight}
}

// many gives k edges that are right from two nodes on.
func many(k int) []api.Heavy {
	l := make([]api.Heavy, k)
	for i := range l {
		l[i] = heavy(0, 1, k-i)
	}
	return l
}

// beyond gives numbers that are none from low to high.
func beyond(low, high int) []int {
	return []int{low - 1, low - 2, high + 1, high + 2, high + 1000, -high - 1000, 1 << 32, 1<<32 + 1, -1 << 32, math.MinInt, math.MinInt + 1, math.MaxInt, math.MaxInt - 1}
}

// wantWrong asks all faces of edges that are wrong: all tell Check's error, and nothing beside it but Check the place. Neck tells it whatever its nodes are.
func wantWrong(t *testing.T, what string, n int, l []api.Heavy, place int, want api.Errno) {
	t.Helper()
	if got, err := Check(n, l); got != place || plain.Told(err) != want {
		t.Errorf("%s: Check: %d %v, want %d %v", what, got, err, place, want)
	}
	if got, err := Span(n, l); got != nil || plain.Told(err) != want {
		t.Errorf("%s: Span: %v %v, want %v", what, got, err, want)
	}
	if got, err := Weight(n, l); got != 0 || plain.Told(err) != want {
		t.Errorf("%s: Weight: %d %v, want %v", what, got, err, want)
	}
	for _, pair := range [][2]int{{0, 0}, {0, 1}, {1, 0}, {0, n - 1}, {-1, 0}, {0, n}, {n, n}, {math.MinInt, math.MaxInt}} {
		if got, err := Neck(n, l, pair[0], pair[1]); got != 0 || plain.Told(err) != want {
			t.Errorf("%s: Neck%v: %d %v, want %v", what, pair, got, err, want)
		}
	}
}

func wantRight(t *testing.T, what string, n int, l []api.Heavy) {
	t.Helper()
	if got, err := Check(n, l); got != 0 || err != nil {
		t.Fatalf("%s: Check: %d %v, want 0 and no error", what, got, err)
	}
}

func wantNeck(t *testing.T, what string, n int, l []api.Heavy, a, b, want int, wrong api.Errno) {
	t.Helper()
	if got, err := Neck(n, l, a, b); got != want || plain.Told(err) != wrong {
		t.Fatalf("%s: Neck(%d, %v, %d, %d): %d %v, want %d %v", what, n, l, a, b, got, err, want, wrong)
	}
}

// names gives for each of n nodes the least node that the edges join it with; plainly, edge by edge, till nothing changes.
func names(n int, l []api.Heavy) []int {
	names := make([]int, n)
	for i := range names {
		names[i] = i
	}
	for changed := true; changed; {
		changed = false
		for _, e := range l {
			if least := min(names[e.A], names[e.B]); names[e.A] != names[e.B] {
				names[e.A], names[e.B], changed = least, least, true
			}
		}
	}
	return names
}

// picked gives the edges that are to be picked.
func picked(l []api.Heavy, pick func(place int) bool) []api.Heavy {
	var out []api.Heavy
	for i, e := range l {
		if pick(i) {
			out = append(out, e)
		}
	}
	return out
}

// spanOf gives the places of the edges that are not closed by all those ahead of them, taken or not: the lighter ones, and the equal ones that stand ahead in l.
func spanOf(n int, l []api.Heavy) []int {
	var out []int
	for i, e := range l {
		ahead := names(n, picked(l, func(k int) bool {
			return l[k].Weight < e.Weight || l[k].Weight == e.Weight && k < i
		}))
		if ahead[e.A] != ahead[e.B] {
			out = append(out, i)
		}
	}
	return out
}

// wantNecks asks Neck of every two nodes: the least weight such that the edges that weigh no more join them.
func wantNecks(t *testing.T, what string, n int, l []api.Heavy) {
	t.Helper()
	var weights []int
	for _, e := range l {
		weights = append(weights, e.Weight)
	}
	slices.Sort(weights)
	weights = slices.Compact(weights)
	rest := make(map[api.Edge]int) // of two nodes that no way is found of yet
	for a := range n {
		wantNeck(t, what, n, l, a, a, 0, api.OK)
		for b := range n {
			if a != b {
				rest[api.Edge{A: a, B: b}] = 0
			}
		}
	}
	for _, w := range weights {
		names := names(n, picked(l, func(k int) bool { return l[k].Weight <= w }))
		for pair := range rest {
			if names[pair.A] == names[pair.B] {
				wantNeck(t, what, n, l, pair.A, pair.B, w, api.OK)
				delete(rest, pair)
			}
		}
	}
	for pair := range rest {
		wantNeck(t, what, n, l, pair.A, pair.B, 0, api.ErrNone)
	}
}

// wantAll asks all faces of edges that are right.
func wantAll(t *testing.T, what string, n int, l []api.Heavy) {
	t.Helper()
	wantRight(t, what, n, l)
	want := spanOf(n, l)
	if got, err := Span(n, l); !slices.Equal(got, want) || err != nil {
		t.Fatalf("%s: Span(%d, %v): %v %v, want %v", what, n, l, got, err, want)
	}
	sum := 0
	for _, i := range want {
		sum += l[i].Weight
	}
	if got, err := Weight(n, l); got != sum || err != nil {
		t.Fatalf("%s: Weight(%d, %v): %d %v, want %d", what, n, l, got, err, sum)
	}
	wantNecks(t, what, n, l)
}

// K1, K2: an ordinary graph, its answers written out.
func TestOrdinary(t *testing.T) {
	l := []api.Heavy{heavy(0, 1, 7), heavy(1, 2, 3), heavy(0, 2, 4), heavy(2, 3, 9), heavy(1, 3, 8), heavy(4, 5, 6)}
	wantAll(t, "ordinary", 7, l)
	if got, err := Span(7, l); !slices.Equal(got, []int{1, 2, 4, 5}) || err != nil {
		t.Errorf("Span: %v %v", got, err)
	}
	if got, err := Weight(7, l); got != 21 || err != nil {
		t.Errorf("Weight: %d %v", got, err)
	}
	for _, x := range []struct {
		a, b, want int
		wrong      api.Errno
	}{{0, 1, 4, 0}, {1, 0, 4, 0}, {1, 2, 3, 0}, {3, 0, 8, 0}, {2, 3, 8, 0}, {5, 4, 6, 0}, {3, 3, 0, 0}, {6, 6, 0, 0}, {0, 4, 0, api.ErrNone}, {6, 0, 0, api.ErrNone}} {
		wantNeck(t, "ordinary", 7, l, x.a, x.b, x.want, x.wrong)
	}
}

// K1, K2: no edge, as nil and as an empty list, at every n that may be.
func TestNoEdge(t *testing.T) {
	for n := 1; n <= api.MaxNodes; n++ {
		wantAll(t, "nil", n, nil)
		wantAll(t, "empty", n, []api.Heavy{})
	}
}

// K1: n that may not be: ErrRange at 0, ahead of all that may be wrong with the edges.
func TestNodesBeyond(t *testing.T) {
	for _, n := range beyond(1, api.MaxNodes) {
		for _, l := range [][]api.Heavy{nil, many(1), many(api.MaxEdges + 1), {heavy(0, 1, 1), heavy(2, 1, -1)}} {
			wantWrong(t, "n", n, l, 0, api.ErrRange)
		}
	}
	wantWrong(t, "0", 0, nil, 0, api.ErrRange)
}

// K1: as many edges as may be, and one more: ErrFull at 0, ahead of all that may be wrong with one.
func TestManyEdges(t *testing.T) {
	for _, n := range []int{2, 3, api.MaxNodes} {
		for _, k := range []int{api.MaxEdges - 1, api.MaxEdges} {
			wantAll(t, "many", n, many(k))
		}
		for _, k := range []int{api.MaxEdges + 1, api.MaxEdges + 2, 5 * api.MaxEdges} {
			l := many(k)
			wantWrong(t, "too many", n, l, 0, api.ErrFull)
			l[1] = heavy(1, 0, -1)
			wantWrong(t, "too many, and one wrong", n, l, 0, api.ErrFull)
		}
	}
	wantWrong(t, "too many of one node", 1, many(api.MaxEdges+1), 0, api.ErrFull)
	wantWrong(t, "edges of one node", 1, many(api.MaxEdges), 0, api.ErrRange)
}

// K1: A, B and Weight at the edges, at every n.
func TestEdgesAtTheEdges(t *testing.T) {
	for n := 2; n <= api.MaxNodes; n++ {
		for _, weight := range []int{0, 1, api.MaxWeight - 1, api.MaxWeight} {
			for _, e := range []api.Edge{{A: 0, B: 1}, {A: 0, B: n - 1}, {A: n - 2, B: n - 1}} {
				l := []api.Heavy{{Edge: e, Weight: weight}}
				wantRight(t, "edge", n, l)
				wantNeck(t, "edge", n, l, e.A, e.B, weight, api.OK)
				wantNeck(t, "edge", n, l, e.B, e.A, weight, api.OK)
				if got, err := Weight(n, l); got != weight || err != nil {
					t.Errorf("Weight(%d, %v): %d %v", n, l, got, err)
				}
			}
		}
	}
}

// wrongEdges gives edges that are none of n nodes, each by one thing alone where that can be.
func wrongEdges(n int) []api.Heavy {
	var l []api.Heavy
	for a := range n {
		l = append(l, heavy(a, a, 1))
		for b := range a {
			l = append(l, heavy(a, b, 1))
		}
	}
	for _, x := range beyond(0, n-1) {
		l = append(l, heavy(x, n-1, 1), heavy(0, x, 1), heavy(x, x, 1), heavy(x, 0, 1), heavy(n-1, x, 1))
	}
	l = append(l, heavy(-2, -1, 1), heavy(n, n+1, 1), heavy(-1, n, 1), heavy(math.MinInt, math.MaxInt, 1), heavy(math.MaxInt, math.MinInt, 1))
	for _, weight := range beyond(0, api.MaxWeight) {
		l = append(l, heavy(0, n-1, weight))
	}
	return l
}

// K1: an edge that is wrong, alone, first, in the midst, and last, of few and of as many as may be: ErrRange at its place.
func TestWrongEdge(t *testing.T) {
	for _, n := range []int{2, 3, 59, api.MaxNodes} {
		for _, e := range wrongEdges(n) {
			for _, x := range [][2]int{{1, 0}, {3, 0}, {3, 1}, {3, 2}, {api.MaxEdges, 100}, {api.MaxEdges, api.MaxEdges - 1}} {
				l := many(x[0])
				l[x[1]] = e
				wantWrong(t, "one wrong", n, l, x[1], api.ErrRange)
			}
		}
	}
}

// K1: of several that are wrong, each in its own way, the first is told.
func TestFirstWrongEdge(t *testing.T) {
	wrong := wrongEdges(4)
	for i, e := range wrong {
		l := append(many(5), e, wrong[(i+17)%len(wrong)], heavy(0, 3, 1), wrong[(i+31)%len(wrong)])
		wantWrong(t, "some wrong", 4, l, 5, api.ErrRange)
	}
}

// K1: the place of an edge is told of an n that it is beyond; of a greater n it is right.
func TestEdgeOfMoreNodes(t *testing.T) {
	l := []api.Heavy{heavy(0, 1, 1), heavy(1, 2, 1), heavy(2, 3, 1)}
	wantWrong(t, "one node", 1, l, 0, api.ErrRange)
	wantWrong(t, "two nodes", 2, l, 1, api.ErrRange)
	wantWrong(t, "three nodes", 3, l, 2, api.ErrRange)
	wantAll(t, "four nodes", 4, l)
}

// K1: several edges between two nodes: the lightest is taken, and of equal ones the first in l.
func TestSeveralBetweenTwo(t *testing.T) {
	for _, x := range []struct {
		weights []int
		want    int
	}{{[]int{3, 2, 1}, 2}, {[]int{1, 2, 3}, 0}, {[]int{2, 1, 3, 1}, 1}, {[]int{5, 5, 5}, 0}, {[]int{0, 0}, 0}, {[]int{1, 0, 0}, 1}, {[]int{api.MaxWeight, api.MaxWeight}, 0}} {
		var l []api.Heavy
		for _, weight := range x.weights {
			l = append(l, heavy(0, 1, weight))
		}
		if got, err := Span(2, l); !slices.Equal(got, []int{x.want}) || err != nil {
			t.Errorf("Span of %v: %v %v, want %d", x.weights, got, err, x.want)
		}
		wantAll(t, "several", 2, l)
	}
}

// K1: of equal weights those are taken that stand first in l, in every order of a ring and of all edges of some nodes.
func TestEqualWeights(t *testing.T) {
	ring := []api.Heavy{heavy(0, 1, 4), heavy(1, 2, 4), heavy(2, 3, 4), heavy(0, 3, 4)}
	for range ring {
		if got, err := Span(4, ring); !slices.Equal(got, []int{0, 1, 2}) || err != nil {
			t.Errorf("Span of %v: %v %v", ring, got, err)
		}
		ring = append(ring[1:], ring[0])
	}
	for _, n := range []int{3, 8, 20} {
		var l []api.Heavy
		for a := range n {
			for b := a + 1; b < n; b++ {
				l = append(l, heavy(a, b, 9))
			}
		}
		wantAll(t, "all", n, l)
		slices.Reverse(l)
		wantAll(t, "all, backwards", n, l)
	}
}

// K1: Span rises by place, however the weights fall.
func TestRising(t *testing.T) {
	var l []api.Heavy
	var want []int
	for a := range api.MaxNodes - 1 {
		l = append(l, heavy(a, a+1, 1000-(a*37)%500))
		want = append(want, a)
	}
	if got, err := Span(api.MaxNodes, l); !slices.Equal(got, want) || err != nil {
		t.Errorf("Span: %v %v, want %v", got, err, want)
	}
	wantAll(t, "chain", api.MaxNodes, l)
}

// K1: the heaviest span that may be.
func TestHeaviest(t *testing.T) {
	var l []api.Heavy
	for b := 1; b < api.MaxNodes; b++ {
		l = append(l, heavy(0, b, api.MaxWeight))
	}
	if got, err := Weight(api.MaxNodes, l); got != 59000000 || err != nil {
		t.Errorf("Weight: %d %v", got, err)
	}
	wantNeck(t, "star", api.MaxNodes, l, 1, 59, api.MaxWeight, api.OK)
}

// K2: nodes that there are not, as either or both, and the same one twice: ErrRange, ahead of ErrNone.
func TestNeckNodesBeyond(t *testing.T) {
	for _, n := range []int{1, 2, 3, 59, api.MaxNodes} {
		for _, l := range [][]api.Heavy{nil, many(min(n-1, 1))} {
			for _, x := range beyond(0, n-1) {
				for _, pair := range [][2]int{{x, 0}, {0, x}, {n - 1, x}, {x, n - 1}, {x, x}, {x, -1}, {-1, x}} {
					wantNeck(t, "beyond", n, l, pair[0], pair[1], 0, api.ErrRange)
				}
			}
		}
	}
}

// K2: a way of weight 0 is a way, and none is none.
func TestNeckOfZero(t *testing.T) {
	l := []api.Heavy{heavy(0, 1, 0), heavy(1, 2, 0), heavy(3, 4, 0)}
	wantNeck(t, "zero", 5, l, 0, 2, 0, api.OK)
	wantNeck(t, "zero", 5, l, 2, 3, 0, api.ErrNone)
	wantNeck(t, "zero", 5, l, 2, 2, 0, api.OK)
}

// K2: of a node with itself it is 0, though all edges there are heavy.
func TestNeckOfItself(t *testing.T) {
	l := []api.Heavy{heavy(0, 1, 8), heavy(1, 2, 9)}
	for a := range 4 {
		wantNeck(t, "itself", 4, l, a, a, 0, api.OK)
	}
}

// K2: a long way of light edges is taken ahead of a short heavy one, and no heavier edge elsewhere counts.
func TestNeckOfLongWay(t *testing.T) {
	l := []api.Heavy{heavy(0, 59, 500)}
	for a := range api.MaxNodes - 1 {
		l = append(l, heavy(a, a+1, 100+a))
	}
	wantNeck(t, "long", api.MaxNodes, l, 0, 59, 158, api.OK)
	wantNeck(t, "long", api.MaxNodes, l, 10, 20, 119, api.OK)
	wantAll(t, "long", api.MaxNodes, l)
}

// anyEdges gives k edges of n nodes, of few weights so that many are equal.
func anyEdges(r *rand.Rand, n, k, weights int) []api.Heavy {
	l := make([]api.Heavy, k)
	for i := range l {
		a, b := r.IntN(n), r.IntN(n-1)
		if b >= a {
			b++
		}
		l[i] = heavy(min(a, b), max(a, b), r.IntN(weights))
	}
	return l
}

// K1, K2: graphs of any kind.
func TestAny(t *testing.T) {
	for seed := range uint64(120) {
		r := rand.New(rand.NewPCG(seed, 4))
		for _, weights := range []int{1, 3, 20, api.MaxWeight + 1} {
			n := 2 + r.IntN(9)
			wantAll(t, "few nodes", n, anyEdges(r, n, r.IntN(20), weights))
			if seed%12 == 0 {
				n = 2 + r.IntN(api.MaxNodes-1)
				wantAll(t, "many nodes", n, anyEdges(r, n, r.IntN(api.MaxEdges+1), weights))
			}
		}
	}
}

// leastWeight goes through all choices of edges: of those that join what all of them join, the least weight.
func leastWeight(n int, l []api.Heavy) int {
	all, least := names(n, l), math.MaxInt
	for choice := range 1 << len(l) {
		some := picked(l, func(k int) bool { return choice>>k&1 == 1 })
		sum := 0
		for _, e := range some {
			sum += e.Weight
		}
		if sum < least && slices.Equal(names(n, some), all) {
			least = sum
		}
	}
	return least
}

// leastNeck goes all ways from a to b that come to no node twice; -1: there is none.
func leastNeck(l []api.Heavy, a, b int, been []int) int {
	if a == b {
		return 0
	}
	least := -1
	for _, e := range l {
		next := e.A + e.B - a
		if (e.A != a && e.B != a) || slices.Contains(been, next) {
			continue
		}
		rest := leastNeck(l, next, b, append(slices.Clone(been), next))
		if rest >= 0 && (least < 0 || max(rest, e.Weight) < least) {
			least = max(rest, e.Weight)
		}
	}
	return least
}

// K1, K2: no choice of edges is lighter than the span, and no way has a lesser neck.
func TestNoneIsLighter(t *testing.T) {
	for seed := range uint64(150) {
		r := rand.New(rand.NewPCG(seed, 5))
		n := 2 + r.IntN(4)
		l := anyEdges(r, n, r.IntN(9), 1+r.IntN(12))
		if got, err := Weight(n, l); got != leastWeight(n, l) || err != nil {
			t.Fatalf("Weight(%d, %v): %d %v, want %d", n, l, got, err, leastWeight(n, l))
		}
		for a := range n {
			for b := range n {
				if want := leastNeck(l, a, b, []int{a}); want >= 0 {
					wantNeck(t, "ways", n, l, a, b, want, api.OK)
				} else {
					wantNeck(t, "ways", n, l, a, b, 0, api.ErrNone)
				}
			}
		}
	}
}

// P2, P4: what is handed in is not written into, nor what lies behind its length, which is not read either.
func TestHandedInStays(t *testing.T) {
	whole := []api.Heavy{heavy(1, 2, 9), heavy(0, 2, 5), heavy(0, 1, 7), heavy(0, 3, 1), heavy(9, 9, -1)}
	before := slices.Clone(whole)
	wantAll(t, "a piece", 4, whole[:3])
	if !slices.Equal(whole, before) {
		t.Errorf("written into: %v, was %v", whole, before)
	}
	wantNeck(t, "behind the length", 4, whole[:3], 0, 3, 0, api.ErrNone)
}

// P2: what is told is the caller's: written into, it changes nothing that is told later; nor does the list that was handed in.
func TestToldIsFresh(t *testing.T) {
	l := []api.Heavy{heavy(0, 1, 2), heavy(1, 2, 3), heavy(0, 2, 4)}
	first, _ := Span(3, l)
	for i := range first[:cap(first)] {
		first[:cap(first)][i] = 77
	}
	wantAll(t, "told again", 3, l)
	told, _ := Span(3, l)
	l[0].Weight = 9
	if !slices.Equal(told, []int{0, 1}) {
		t.Errorf("told: %v", told)
	}
	wantAll(t, "of another list", 3, l)
}
