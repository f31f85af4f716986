package union

import (
	"math"
	"math/bits"
	"math/rand/v2"
	"slices"
	"testing"

	"footbridge/api"
	"footbridge/plain"
)

func mustNew(t *testing.T, n int) *Union {
	t.Helper()
	u, err := New(n)
	if err != nil || u == nil {
		t.Fatalf("New(%d): %v %v", n, u, err)
	}
	return u
}

func mustBack(t *testing.T, u *Union, mark int) {
	t.Helper()
	if err := u.Back(mark); err != nil {
		t.Fatalf("Back(%d) of %d: %v", mark, u.Mark(), err)
	}
}

func wantJoin(t *testing.T, u *Union, a, b int, want bool) {
	t.Helper()
	if got, err := u.Join(a, b); got != want || err != nil {
		t.Fatalf("Join(%d, %d): %v %v, want %v", a, b, got, err, want)
	}
}

func wantErr(t *testing.T, name string, err error, want api.Errno) {
	t.Helper()
	if got := plain.Told(err); got != want {
		t.Errorf("%s: error %v, want %v", name, got, want)
	}
}

// alone gives for each of n nodes the name of its part: each its own.
func alone(n int) []int {
	l := make([]int, n)
	for i := range l {
		l[i] = i
	}
	return l
}

// merged gives the names of the parts, those of a and b one; plainly, by going through all.
func merged(names []int, a, b int) []int {
	out := slices.Clone(names)
	for i, x := range out {
		if x == names[b] {
			out[i] = names[a]
		}
	}
	return out
}

func countOf(names []int, name int) int {
	n := 0
	for _, x := range names {
		if x == name {
			n++
		}
	}
	return n
}

// wantParts asks all that a union tells, of every node and every two.
func wantParts(t *testing.T, what string, u *Union, names []int, mark int) {
	t.Helper()
	kinds := slices.Compact(slices.Sorted(slices.Values(names)))
	if u.Parts() != len(kinds) {
		t.Fatalf("%s: Parts %d, want %d", what, u.Parts(), len(kinds))
	}
	if u.Mark() != mark {
		t.Fatalf("%s: Mark %d, want %d", what, u.Mark(), mark)
	}
	for a := range names {
		if got, err := u.Size(a); got != countOf(names, names[a]) || err != nil {
			t.Fatalf("%s: Size(%d): %d %v, want %d", what, a, got, err, countOf(names, names[a]))
		}
		for b := range names {
			if got, err := u.Same(a, b); got != (names[a] == names[b]) || err != nil {
				t.Fatalf("%s: Same(%d, %d): %v %v", what, a, b, got, err)
			}
		}
	}
}

// beyond gives numbers that are none from low to high.
func beyond(low, high int) []int {
	return []int{low - 1, low - 2, high + 1, high + 2, high + 1000, -high - 1000, 1 << 32, 1<<32 + 1, -1 << 32, math.MinInt, math.MinInt + 1, math.MaxInt, math.MaxInt - 1}
}

// U1: New at every n that may be: each node a part of its own.
func TestNew(t *testing.T) {
	for n := 1; n <= api.MaxNodes; n++ {
		wantParts(t, "New", mustNew(t, n), alone(n), 0)
	}
}

// U1: New at n that may not be.
func TestNewBeyond(t *testing.T) {
	for _, n := range beyond(1, api.MaxNodes) {
		u, err := New(n)
		wantErr(t, "New", err, api.ErrRange)
		if u != nil {
			t.Errorf("New(%d) gives a union beside its error", n)
		}
	}
}

// U1: nodes at the edges are there, at every n.
func TestNodesAtTheEdges(t *testing.T) {
	for n := 1; n <= api.MaxNodes; n++ {
		u := mustNew(t, n)
		wantJoin(t, u, 0, n-1, n > 1)
		wantParts(t, "edges", u, merged(alone(n), 0, n-1), min(n-1, 1))
	}
}

// U1: nodes that there are not, as either of two or both: nothing is told, and nothing changes.
func TestNodesBeyond(t *testing.T) {
	for _, n := range []int{1, 2, 3, 59, api.MaxNodes} {
		u := mustNew(t, n)
		wantJoin(t, u, 0, n-1, n > 1)
		names := merged(alone(n), 0, n-1)
		for _, x := range beyond(0, n-1) {
			for _, pair := range [][2]int{{x, 0}, {0, x}, {n - 1, x}, {x, n - 1}, {x, x}, {x, -1}, {-1, x}} {
				joined, err := u.Join(pair[0], pair[1])
				wantErr(t, "Join", err, api.ErrRange)
				same, err := u.Same(pair[0], pair[1])
				wantErr(t, "Same", err, api.ErrRange)
				if joined || same {
					t.Errorf("%v of %d nodes: Join %v, Same %v beside their errors", pair, n, joined, same)
				}
			}
			size, err := u.Size(x)
			wantErr(t, "Size", err, api.ErrRange)
			if size != 0 {
				t.Errorf("Size(%d) of %d nodes tells %d beside its error", x, n, size)
			}
		}
		wantParts(t, "behind wrong nodes", u, names, min(n-1, 1))
	}
}

// U1: a node with itself is one part; a Join of it says false.
func TestJoinWithItself(t *testing.T) {
	u := mustNew(t, 4)
	for a := range 4 {
		wantJoin(t, u, a, a, false)
	}
	wantParts(t, "itself", u, alone(4), 0)
}

// U1: parts, not nodes, are joined; what is in one part already says false, and is no Join to take back.
func TestJoinAlready(t *testing.T) {
	u := mustNew(t, 6)
	wantJoin(t, u, 0, 1, true)
	wantJoin(t, u, 2, 3, true)
	wantJoin(t, u, 1, 2, true)
	names := []int{0, 0, 0, 0, 4, 5}
	wantParts(t, "joined", u, names, 3)
	for a := range 4 {
		for b := range 4 {
			wantJoin(t, u, a, b, false)
		}
	}
	wantParts(t, "joined already", u, names, 3)
	mustBack(t, u, 2)
	wantParts(t, "one back", u, []int{0, 0, 2, 2, 4, 5}, 2)
}

// U1: all nodes into one, in orders that lean each way, at every n.
func TestAllInOne(t *testing.T) {
	for n := 1; n <= api.MaxNodes; n++ {
		up, down, star := mustNew(t, n), mustNew(t, n), mustNew(t, n)
		for i := 1; i < n; i++ {
			wantJoin(t, up, i-1, i, true)
			wantJoin(t, down, n-i, n-i-1, true)
			wantJoin(t, star, i, 0, true)
		}
		for _, u := range []*Union{up, down, star} {
			wantParts(t, "all in one", u, make([]int, n), n-1)
			wantJoin(t, u, 0, n-1, false)
		}
	}
}

// U2: Mark counts the Joins that said true; Back to each mark, one by one, gives what was.
func TestBackOneByOne(t *testing.T) {
	u := mustNew(t, api.MaxNodes)
	was := [][]int{alone(api.MaxNodes)}
	for i := 1; i < api.MaxNodes; i++ {
		a, b := (i*7)%i, i
		wantJoin(t, u, a, b, true)
		was = append(was, merged(was[i-1], a, b))
		wantParts(t, "forth", u, was[i], i)
	}
	for mark := api.MaxNodes - 1; mark >= 0; mark-- {
		mustBack(t, u, mark)
		wantParts(t, "back", u, was[mark], mark)
	}
}

// U2: Back behind several Joins at once, to every mark from every other, and forth again on another way.
func TestBackSeveral(t *testing.T) {
	const n = 12
	pairs := [][2]int{{0, 1}, {2, 3}, {3, 1}, {4, 5}, {6, 7}, {5, 7}, {0, 7}, {8, 9}, {9, 6}, {10, 8}, {11, 10}}
	was := [][]int{alone(n)}
	for i, p := range pairs {
		was = append(was, merged(was[i], p[0], p[1]))
	}
	for from := range was {
		for to := 0; to <= from; to++ {
			u := mustNew(t, n)
			for _, p := range pairs[:from] {
				wantJoin(t, u, p[0], p[1], true)
			}
			mustBack(t, u, to)
			wantParts(t, "back", u, was[to], to)
			for i := to; i < len(pairs); i++ {
				wantJoin(t, u, pairs[i][1], pairs[i][0], true)
				wantParts(t, "forth again", u, was[i+1], i+1)
			}
		}
	}
}

// U2: a mark at 0 and at Mark, and beyond on both sides, at every Mark: what may not be changes nothing.
func TestBackBeyond(t *testing.T) {
	u, names := mustNew(t, 9), alone(9)
	for mark := range 9 {
		for _, x := range beyond(0, mark) {
			wantErr(t, "Back", u.Back(x), api.ErrRange)
		}
		mustBack(t, u, mark)
		wantParts(t, "not back", u, names, mark)
		if mark < 8 {
			wantJoin(t, u, 8, mark, true)
			names = merged(names, 8, mark)
		}
	}
	mustBack(t, u, 0)
	wantParts(t, "all back", u, alone(9), 0)
	wantErr(t, "Back to what is taken back", u.Back(1), api.ErrRange)
}

// U1, U2: Joins and Backs in any order, held against parts that are named plainly.
func TestForthAndBackOften(t *testing.T) {
	for seed := range uint64(30) {
		r := rand.New(rand.NewPCG(seed, 2))
		n := 1 + r.IntN(api.MaxNodes)
		u := mustNew(t, n)
		was := [][]int{alone(n)}
		for range 300 {
			now := was[len(was)-1]
			if r.IntN(5) == 0 {
				mark := r.IntN(len(was))
				mustBack(t, u, mark)
				was = was[:mark+1]
			} else {
				a, b := r.IntN(n), r.IntN(n)
				wantJoin(t, u, a, b, now[a] != now[b])
				if now[a] != now[b] {
					was = append(was, merged(now, a, b))
				}
			}
			wantParts(t, "often", u, was[len(was)-1], len(was)-1)
		}
	}
}

// P2: two unions have nothing of each other.
func TestTwoUnions(t *testing.T) {
	u, v := mustNew(t, 3), mustNew(t, 3)
	wantJoin(t, u, 0, 1, true)
	wantJoin(t, v, 1, 2, true)
	wantParts(t, "u", u, []int{0, 0, 2}, 1)
	wantParts(t, "v", v, []int{0, 1, 1}, 1)
	mustBack(t, u, 0)
	wantParts(t, "u back", u, alone(3), 0)
	wantParts(t, "v still", v, []int{0, 1, 1}, 1)
}

// U1: the lesser tree goes below the greater, whichever is named first, so that no way up is long.
func TestWaysUpAreShort(t *testing.T) {
	for seed := range uint64(20) {
		r := rand.New(rand.NewPCG(seed, 3))
		u := mustNew(t, api.MaxNodes)
		for u.Parts() > 1 {
			if _, err := u.Join(r.IntN(api.MaxNodes), r.IntN(api.MaxNodes)); err != nil {
				t.Fatal(err)
			}
			for a := range api.MaxNodes {
				size, err := u.Size(a)
				if err != nil {
					t.Fatal(err)
				}
				long := 1
				for x := a; u.above[x] != x; x = u.above[x] {
					long++
				}
				if most := bits.Len(uint(size)); long > most {
					t.Fatalf("a way up of %d nodes in a part of %d, want at most %d", long, size, most)
				}
			}
		}
	}
}
