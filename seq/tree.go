package seq

// node of a tree: never changed once made, as many rows may share it. The depths of its two branches differ by at most one, which keeps a tree of n items within 1.45 times the digits of n in base 2.
type node struct {
	left, right *node
	item        int
	size, depth int
}

func size(t *node) int {
	if t == nil {
		return 0
	}
	return t.size
}

func depth(t *node) int {
	if t == nil {
		return 0
	}
	return t.depth
}

// grow makes a node above two branches whose depths differ by at most one.
func grow(left *node, item int, right *node) *node {
	return &node{
		left:  left,
		right: right,
		item:  item,
		size:  size(left) + 1 + size(right),
		depth: max(depth(left), depth(right)) + 1,
	}
}

// spread makes a tree of a list; halves differ by at most one item, and so by at most one in depth.
func spread(l []int) *node {
	if len(l) == 0 {
		return nil
	}
	m := len(l) / 2
	return grow(spread(l[:m]), l[m], spread(l[m+1:]))
}

// even makes a node above two branches whose depths differ by at most two.
func even(left *node, item int, right *node) *node {
	switch depth(left) - depth(right) {
	case 2:
		return leanRight(left, item, right)
	case -2:
		return leanLeft(left, item, right)
	}
	return grow(left, item, right)
}

// leanRight takes weight off a left branch that is too deep by one.
func leanRight(left *node, item int, right *node) *node {
	in := left.right
	if depth(left.left) >= depth(in) {
		return grow(left.left, left.item, grow(in, item, right))
	}
	return grow(grow(left.left, left.item, in.left), in.item, grow(in.right, item, right))
}

// leanLeft takes weight off a right branch that is too deep by one.
func leanLeft(left *node, item int, right *node) *node {
	in := right.left
	if depth(right.right) >= depth(in) {
		return grow(grow(left, item, in), right.item, right.right)
	}
	return grow(grow(left, item, in.left), in.item, grow(in.right, right.item, right.right))
}

// link joins two trees of any depth with an item between. It goes down the deeper one, as what comes back from there is at most one deeper than what it takes the place of.
func link(left *node, item int, right *node) *node {
	if depth(left) > depth(right)+1 {
		return even(left.left, left.item, link(left.right, item, right))
	}
	if depth(right) > depth(left)+1 {
		return even(link(left, item, right.left), right.item, right.right)
	}
	return grow(left, item, right)
}

// concat joins two trees with nothing between: the first item of b is taken for that.
func concat(a, b *node) *node {
	if a == nil {
		return b
	}
	if b == nil {
		return a
	}
	item, rest := behead(b)
	return link(a, item, rest)
}

// behead gives the first item of a tree that has one, and the tree of the others.
func behead(t *node) (int, *node) {
	if t.left == nil {
		return t.item, t.right
	}
	item, rest := behead(t.left)
	return item, even(rest, t.item, t.right)
}

// cut gives the tree of the first i items, and that of the others.
func cut(t *node, i int) (low, high *node) {
	if t == nil {
		return nil, nil
	}
	here := size(t.left)
	if i <= here {
		low, high = cut(t.left, i)
		return low, link(high, t.item, t.right)
	}
	low, high = cut(t.right, i-here-1)
	return link(t.left, t.item, low), high
}

// pick gives item i of a tree that has it.
func pick(t *node, i int) int {
	here := size(t.left)
	for i != here {
		if i < here {
			t = t.left
		} else {
			t, i = t.right, i-here-1
		}
		here = size(t.left)
	}
	return t.item
}
