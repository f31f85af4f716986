package tour

import (
	"slices"

	"footbridge/seq"
)

// The errors of rows are left aside here: a way has at most api.MaxNodes nodes and twice as many steps, far within api.MaxSeq, and is cut at places that it has.

// only gives a row of one item.
func only(item int) *seq.Seq {
	s, _ := seq.Of([]int{item})
	return s
}

// joined gives all rows, one behind the other.
func joined(rows ...*seq.Seq) *seq.Seq {
	var all *seq.Seq
	for _, s := range rows {
		all, _ = seq.Join(all, s)
	}
	return all
}

// piece gives the items of a row from place i on, to ahead of place j.
func piece(s *seq.Seq, i, j int) *seq.Seq {
	low, _, _ := s.Split(j)
	_, p, _ := low.Split(i)
	return p
}

// place of an item in a row that has it.
func place(s *seq.Seq, item int) int { return slices.Index(s.List(), item) }
