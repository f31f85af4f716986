package seq

import (
	"testing"

	"footbridge/api"
)

// wantEven asks of every node what its remark says: it is this that S2's bound rests on.
func wantEven(t *testing.T, n *node) {
	t.Helper()
	if n == nil {
		return
	}
	wantEven(t, n.left)
	wantEven(t, n.right)
	if n.size != size(n.left)+1+size(n.right) {
		t.Fatalf("size %d of a node above %d and %d", n.size, size(n.left), size(n.right))
	}
	if n.depth != max(depth(n.left), depth(n.right))+1 {
		t.Fatalf("depth %d of a node above %d and %d", n.depth, depth(n.left), depth(n.right))
	}
	if d := depth(n.left) - depth(n.right); d < -1 || d > 1 {
		t.Fatalf("branches of depths %d and %d", depth(n.left), depth(n.right))
	}
}

// thin makes the tree of that depth that has the fewest items: the hardest one to keep even.
func thin(depth int, deepLeft bool) *node {
	if depth <= 0 {
		return nil
	}
	more, less := thin(depth-1, deepLeft), thin(depth-2, deepLeft)
	if deepLeft {
		return grow(more, depth, less)
	}
	return grow(less, depth, more)
}

// S2: trees of all depths, the thinnest ones, linked and joined.
func TestLinkThinTrees(t *testing.T) {
	for a := range 12 {
		for b := range 12 {
			for kind := range 4 {
				left, right := thin(a, kind&1 != 0), thin(b, kind&2 != 0)
				x := link(left, -1, right)
				wantEven(t, x)
				if x.depth > max(a, b)+1 || x.depth < max(a, b) {
					t.Fatalf("link of depths %d and %d has depth %d", a, b, x.depth)
				}
				wantEven(t, concat(left, right))
			}
		}
	}
}

// S2: the thinnest trees, cut at every place.
func TestCutThinTrees(t *testing.T) {
	for d := range 12 {
		for _, deepLeft := range []bool{false, true} {
			x := thin(d, deepLeft)
			for i := 0; i <= size(x); i++ {
				low, high := cut(x, i)
				wantEven(t, low)
				wantEven(t, high)
				wantEven(t, concat(high, low))
			}
			wantEven(t, x)
		}
	}
}

// S2: every length is spread evenly.
func TestSpread(t *testing.T) {
	for n := 0; n <= api.MaxSeq; n++ {
		wantEven(t, spread(make([]int, n)))
	}
}

// S2: a branch that is too deep by one, whichever of its own branches is the deeper, on either side.
func TestEven(t *testing.T) {
	for h := range 8 {
		for _, below := range [][2]int{{h + 1, h + 1}, {h + 1, h}, {h, h + 1}} {
			for kind := range 4 {
				deep := grow(thin(below[0], kind&1 != 0), -1, thin(below[1], kind&2 != 0))
				low := thin(h, kind&1 != 0)
				wantEven(t, even(deep, -2, low))
				wantEven(t, even(low, -2, deep))
			}
		}
	}
}
