// Package seq has rows that are cut and joined.
package seq

import (
	"footbridge/api"
)

// Seq is a row of items, in order; nil has none. It only points at its tree, so that rows share nodes, and still none can be changed through another.
type Seq struct{ root *node }

// Of a list.
func Of(l []int) (*Seq, error) {
	if len(l) > api.MaxSeq {
		return nil, api.ErrFull
	}
	return rowOf(spread(l)), nil
}

// Join two rows: a, and then b.
func Join(a, b *Seq) (*Seq, error) {
	if a.Len()+b.Len() > api.MaxSeq {
		return nil, api.ErrFull
	}
	return rowOf(concat(a.tree(), b.tree())), nil
}

// Split a row: its first i items, and the others.
func (s *Seq) Split(i int) (low, high *Seq, err error) {
	if i < 0 || i > s.Len() {
		return nil, nil, api.ErrRange
	}
	l, h := cut(s.tree(), i)
	return rowOf(l), rowOf(h), nil
}

// At a place.
func (s *Seq) At(i int) (int, error) {
	if i < 0 || i >= s.Len() {
		return 0, api.ErrRange
	}
	return pick(s.tree(), i), nil
}

// Len of a row.
func (s *Seq) Len() int { return size(s.tree()) }

// List of all items.
func (s *Seq) List() []int {
	out := make([]int, 0, s.Len())
	var walk func(t *node)
	walk = func(t *node) {
		if t == nil {
			return
		}
		walk(t.left)
		out = append(out, t.item)
		walk(t.right)
	}
	walk(s.tree())
	return out
}

// Depth of the tree: how many items stand at most one above the other, the lowest counted.
func (s *Seq) Depth() int { return depth(s.tree()) }

// rowOf gives nil for no tree, so that a row of none is always the same.
func rowOf(t *node) *Seq {
	if t == nil {
		return nil
	}
	return &Seq{root: t}
}

func (s *Seq) tree() *node {
	if s == nil {
		return nil
	}
	return s.root
}
