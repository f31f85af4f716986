package seq

import (
	"math"
	"math/bits"
	"math/rand/v2"
	"slices"
	"testing"

	"footbridge/api"
	"footbridge/plain"
)

// count gives n items, no two the same, that begin with from.
func count(from, n int) []int {
	l := make([]int, n)
	for i := range l {
		l[i] = from + i
	}
	return l
}

func mustOf(t *testing.T, l []int) *Seq {
	t.Helper()
	s, err := Of(l)
	if err != nil {
		t.Fatalf("Of %d items: %v", len(l), err)
	}
	return s
}

func mustJoin(t *testing.T, a, b *Seq) *Seq {
	t.Helper()
	s, err := Join(a, b)
	if err != nil {
		t.Fatalf("Join of %d and %d items: %v", a.Len(), b.Len(), err)
	}
	return s
}

func mustSplit(t *testing.T, s *Seq, i int) (low, high *Seq) {
	t.Helper()
	low, high, err := s.Split(i)
	if err != nil {
		t.Fatalf("Split of %d items at %d: %v", s.Len(), i, err)
	}
	return low, high
}

// wantRow asks all that a row tells, and looks at its tree.
func wantRow(t *testing.T, name string, s *Seq, want []int) {
	t.Helper()
	if got := s.List(); !slices.Equal(got, want) {
		t.Fatalf("%s: List %v, want %v", name, got, want)
	}
	if s.Len() != len(want) {
		t.Fatalf("%s: Len %d, want %d", name, s.Len(), len(want))
	}
	for i, x := range want {
		if got, err := s.At(i); got != x || err != nil {
			t.Fatalf("%s: At(%d): %d %v, want %d", name, i, got, err, x)
		}
	}
	wantDepth(t, name, s)
}

// wantDepth holds Depth against the tree as it stands, and against the promise's bound.
func wantDepth(t *testing.T, name string, s *Seq) {
	t.Helper()
	var deep func(n *node) int
	deep = func(n *node) int {
		if n == nil {
			return 0
		}
		return max(deep(n.left), deep(n.right)) + 1
	}
	if got := deep(s.tree()); got != s.Depth() {
		t.Fatalf("%s: Depth %d, but the tree has %d", name, s.Depth(), got)
	}
	if most := 3 * bits.Len(uint(s.Len())); s.Depth() > most {
		t.Fatalf("%s: Depth %d of %d items, want at most %d", name, s.Depth(), s.Len(), most)
	}
}

func wantErr(t *testing.T, name string, err error, want api.Errno) {
	t.Helper()
	if got := plain.Told(err); got != want {
		t.Errorf("%s: error %v, want %v", name, got, want)
	}
}

// beyond gives places that no row of n items has, n among them if it is none either.
func beyond(n int, withLen bool) []int {
	l := []int{-1, -2, -n - 1, n + 1, n + 2, api.MaxSeq + 1, math.MinInt, math.MinInt + 1, math.MaxInt, math.MaxInt - 1, 1 << 32, -1 << 32}
	if withLen {
		l = append(l, n)
	}
	return l
}

// S1: Of, List, Len, At at every length.
func TestOfTellsBack(t *testing.T) {
	for n := 0; n <= api.MaxSeq; n++ {
		l := count(1000, n)
		wantRow(t, "Of", mustOf(t, l), l)
	}
	odd := []int{5, 5, 0, -5, math.MaxInt, math.MinInt, 5}
	wantRow(t, "Of any numbers", mustOf(t, odd), odd)
}

// S1: a row of none, however it is made, is one.
func TestNone(t *testing.T) {
	var none *Seq
	fromNil := mustOf(t, nil)
	fromEmpty := mustOf(t, []int{})
	low, high := mustSplit(t, none, 0)
	one := mustOf(t, []int{1})
	left, _ := mustSplit(t, one, 0)
	_, right := mustSplit(t, one, 1)
	for i, s := range []*Seq{none, fromNil, fromEmpty, low, high, left, right, mustJoin(t, nil, nil), mustJoin(t, left, right), {}} {
		wantRow(t, "none", s, nil)
		if s.Depth() != 0 {
			t.Errorf("none %d: Depth %d, want 0", i, s.Depth())
		}
		for _, at := range beyond(0, true) {
			x, err := s.At(at)
			wantErr(t, "At of none", err, api.ErrRange)
			if x != 0 {
				t.Errorf("none %d: At(%d) tells %d beside its error", i, at, x)
			}
		}
		wantRow(t, "none ahead", mustJoin(t, s, one), []int{1})
		wantRow(t, "none behind", mustJoin(t, one, s), []int{1})
	}
}

// S1: Of holds MaxSeq items, and not one more.
func TestOfFull(t *testing.T) {
	for _, n := range []int{api.MaxSeq + 1, api.MaxSeq + 2, 2 * api.MaxSeq, 100000} {
		s, err := Of(count(0, n))
		wantErr(t, "Of", err, api.ErrFull)
		if s != nil {
			t.Errorf("Of %d items gives a row beside its error", n)
		}
	}
}

// S1: Join, of all kinds of lengths, to MaxSeq.
func TestJoin(t *testing.T) {
	lengths := []int{0, 1, 2, 3, 4, 7, 8, 20, 63, 64, 100, 199, 200, 201, 336, 380, 392, 399, 400}
	for _, m := range lengths {
		for _, n := range lengths {
			a, b := count(0, m), count(5000, n)
			s, err := Join(mustOf(t, a), mustOf(t, b))
			if m+n > api.MaxSeq {
				wantErr(t, "Join", err, api.ErrFull)
				if s != nil {
					t.Errorf("Join of %d and %d items gives a row beside its error", m, n)
				}
				continue
			}
			wantErr(t, "Join", err, api.OK)
			wantRow(t, "Join", s, slices.Concat(a, b))
		}
	}
}

// S1: the edge of ErrFull, from both sides, and of a row with itself.
func TestJoinFull(t *testing.T) {
	full, one := mustOf(t, count(0, api.MaxSeq)), mustOf(t, []int{7})
	for _, pair := range [][2]*Seq{{full, one}, {one, full}, {full, full}} {
		s, err := Join(pair[0], pair[1])
		wantErr(t, "Join", err, api.ErrFull)
		if s != nil {
			t.Error("Join gives a row beside its error")
		}
	}
	wantRow(t, "full and none", mustJoin(t, full, nil), count(0, api.MaxSeq))
	wantRow(t, "none and full", mustJoin(t, nil, full), count(0, api.MaxSeq))
	half := mustOf(t, count(0, api.MaxSeq/2))
	wantRow(t, "twice a half", mustJoin(t, half, half), slices.Concat(count(0, api.MaxSeq/2), count(0, api.MaxSeq/2)))
}

// S1: Split at every place, and at places that there are not.
func TestSplit(t *testing.T) {
	for _, n := range []int{0, 1, 2, 3, 4, 5, 8, 31, 32, 33, 100, 399, 400} {
		l := count(-3, n)
		s := mustOf(t, l)
		for i := 0; i <= n; i++ {
			low, high := mustSplit(t, s, i)
			wantRow(t, "low", low, l[:i])
			wantRow(t, "high", high, l[i:])
		}
		for _, i := range beyond(n, false) {
			low, high, err := s.Split(i)
			wantErr(t, "Split", err, api.ErrRange)
			if low != nil || high != nil {
				t.Errorf("Split of %d items at %d gives a row beside its error", n, i)
			}
		}
		wantRow(t, "what was split", s, l)
	}
}

// S1: At at places that there are not; those that there are, wantRow asks.
func TestAtBeyond(t *testing.T) {
	for _, n := range []int{1, 2, 3, 50, 399, 400} {
		s := mustOf(t, count(9, n))
		for _, i := range beyond(n, true) {
			x, err := s.At(i)
			wantErr(t, "At", err, api.ErrRange)
			if x != 0 {
				t.Errorf("At(%d) of %d items tells %d beside its error", i, n, x)
			}
		}
	}
}

// S1: what is made of a row leaves it as it was, in its items and in its tree.
func TestDoesNotChange(t *testing.T) {
	l := count(0, 90)
	s, other := mustOf(t, l), mustOf(t, []int{-1, -2})
	tree := s.Depth()
	low, high := mustSplit(t, s, 37)
	wantRow(t, "turned", mustJoin(t, high, low), slices.Concat(l[37:], l[:37]))
	wantRow(t, "behind", mustJoin(t, s, other), slices.Concat(l, []int{-1, -2}))
	wantRow(t, "ahead", mustJoin(t, other, s), slices.Concat([]int{-1, -2}, l))
	wantRow(t, "s", s, l)
	wantRow(t, "low", low, l[:37])
	wantRow(t, "high", high, l[37:])
	wantRow(t, "other", other, []int{-1, -2})
	if s.Depth() != tree {
		t.Errorf("Depth was %d, is %d", tree, s.Depth())
	}
}

// S1, P2: what is made of a row is another one, even where it has the same items: a caller who writes over one leaves the others.
func TestAnotherOne(t *testing.T) {
	l := count(0, 40)
	s := mustOf(t, l)
	_, all := mustSplit(t, s, 0)
	whole, _ := mustSplit(t, s, 40)
	low, high := mustSplit(t, s, 20)
	for _, made := range []*Seq{all, whole, low, high, mustJoin(t, s, nil), mustJoin(t, nil, s)} {
		*made = Seq{}
		wantRow(t, "written over", made, nil)
		wantRow(t, "s", s, l)
	}
}

// P2, P4: the list that is handed in is neither written, kept, nor read behind its length.
func TestListHandedIn(t *testing.T) {
	memory := count(0, 30)
	s := mustOf(t, memory[5:12])
	if !slices.Equal(memory, count(0, 30)) {
		t.Error("Of wrote into its list")
	}
	for i := range memory {
		memory[i] = -1
	}
	wantRow(t, "s", s, count(5, 7))
}

// P2: each List is fresh.
func TestListFresh(t *testing.T) {
	s := mustOf(t, count(0, 12))
	first, second := s.List(), s.List()
	for i := range first {
		first[i] = -1
	}
	_ = append(first, 99)
	if !slices.Equal(second, count(0, 12)) {
		t.Error("two Lists share memory")
	}
	wantRow(t, "s", s, count(0, 12))
}

// S2: rows that grow item by item, at either end and in the middle, are no chains.
func TestDepthGrowing(t *testing.T) {
	var behind, ahead, middle *Seq
	for i := range api.MaxSeq {
		one := mustOf(t, []int{i})
		behind = mustJoin(t, behind, one)
		ahead = mustJoin(t, one, ahead)
		low, high := mustSplit(t, middle, i/2)
		middle = mustJoin(t, mustJoin(t, low, one), high)
		wantDepth(t, "behind", behind)
		wantDepth(t, "ahead", ahead)
		wantDepth(t, "middle", middle)
	}
	wantRow(t, "behind", behind, count(0, api.MaxSeq))
	down := count(0, api.MaxSeq)
	slices.Reverse(down)
	wantRow(t, "ahead", ahead, down)
}

// S2: rows that shrink item by item, at either end and in the middle.
func TestDepthShrinking(t *testing.T) {
	all := count(0, api.MaxSeq)
	s := mustOf(t, all)
	front, back, middle := s, s, s
	for n := api.MaxSeq; n > 0; n-- {
		_, front = mustSplit(t, front, 1)
		back, _ = mustSplit(t, back, n-1)
		low, rest := mustSplit(t, middle, n/2)
		_, high := mustSplit(t, rest, 1)
		middle = mustJoin(t, low, high)
		wantRow(t, "front", front, all[api.MaxSeq-n+1:])
		wantRow(t, "back", back, all[:n-1])
		wantDepth(t, "middle", middle)
	}
}

// S1, S2: rows that were cut and joined many times, held against plain lists.
func TestCutAndJoinedOften(t *testing.T) {
	for seed := range uint64(12) {
		r := rand.New(rand.NewPCG(seed, 1))
		const many = 6
		var rows [many]*Seq
		var lists [many][]int
		for i := range rows {
			lists[i] = count(1000*i, r.IntN(api.MaxSeq/2))
			rows[i] = mustOf(t, lists[i])
		}
		for range 1500 {
			from, to := r.IntN(many), r.IntN(many)
			i := r.IntN(len(lists[from]) + 1)
			low, high := mustSplit(t, rows[from], i)
			lowList, highList := slices.Clone(lists[from][:i]), slices.Clone(lists[from][i:])
			wantRow(t, "low", low, lowList)
			wantRow(t, "high", high, highList)
			joined, err := Join(high, rows[to])
			if len(highList)+len(lists[to]) > api.MaxSeq {
				wantErr(t, "Join", err, api.ErrFull)
				rows[to], lists[to] = low, lowList
				continue
			}
			wantErr(t, "Join", err, api.OK)
			rows[to], lists[to] = joined, slices.Concat(highList, lists[to])
			wantRow(t, "joined", rows[to], lists[to])
		}
	}
}

// S2: cut into pieces of all lengths and put together in another order, over and over, a full row stays shallow.
func TestShuffledOften(t *testing.T) {
	r := rand.New(rand.NewPCG(3, 14))
	s, l := mustOf(t, count(0, api.MaxSeq)), count(0, api.MaxSeq)
	for range 4000 {
		i, j := r.IntN(api.MaxSeq+1), r.IntN(api.MaxSeq+1)
		i, j = min(i, j), max(i, j)
		head, rest := mustSplit(t, s, i)
		body, tail := mustSplit(t, rest, j-i)
		s = mustJoin(t, mustJoin(t, tail, body), head)
		l = slices.Concat(l[j:], l[i:j], l[:i])
		wantRow(t, "shuffled", s, l)
	}
}
