package asks

import (
	"math"
	"math/rand/v2"
	"slices"
	"testing"

	"footbridge/api"
	"footbridge/graph"
	"footbridge/plain"
)

func add(a, b int) api.Event  { return api.Event{What: api.Add, A: a, B: b} }
func drop(a, b int) api.Event { return api.Event{What: api.Drop, A: a, B: b} }
func ask(a, b int) api.Event  { return api.Event{What: api.Ask, A: a, B: b} }

// many gives k events that are right from two nodes on, of all kinds, the nodes of an edge in both orders.
func many(k int) []api.Event {
	l := make([]api.Event, k)
	for i := range l {
		l[i] = []api.Event{add(0, 1), ask(1, 0), drop(1, 0), ask(0, 1)}[i%4]
	}
	return l
}

// askings gives k events that are right from one node on.
func askings(k int) []api.Event {
	return slices.Repeat([]api.Event{ask(0, 0)}, k)
}

// beyond gives numbers that are none from low to high.
func beyond(low, high int) []int {
	return []int{low - 1, low - 2, high + 1, high + 2, high + 1000, -high - 1000, 1 << 32, 1<<32 + 1, -1 << 32, math.MinInt, math.MinInt + 1, math.MaxInt, math.MaxInt - 1}
}

// wantWrong asks all faces of events that are wrong: all tell Check's error, and nothing beside it but Check the place.
func wantWrong(t *testing.T, what string, n int, l []api.Event, place int, want api.Errno) {
	t.Helper()
	if got, err := Check(n, l); got != place || plain.Told(err) != want {
		t.Errorf("%s: Check(%d, %v): %d %v, want %d %v", what, n, l, got, err, place, want)
	}
	if got, err := Answers(n, l); len(got) != 0 || plain.Told(err) != want {
		t.Errorf("%s: Answers(%d, %v): %v %v, want %v", what, n, l, got, err, want)
	}
	if got, err := Spans(n, l); len(got) != 0 || plain.Told(err) != want {
		t.Errorf("%s: Spans(%d, %v): %v %v, want %v", what, n, l, got, err, want)
	}
}

// wantTold asks all faces of events that are right.
func wantTold(t *testing.T, what string, n int, l []api.Event, answers []bool, spans [][2]int) {
	t.Helper()
	if got, err := Check(n, l); got != 0 || err != nil {
		t.Fatalf("%s: Check(%d, %v): %d %v, want 0 and no error", what, n, l, got, err)
	}
	if got, err := Answers(n, l); !slices.Equal(got, answers) || err != nil {
		t.Fatalf("%s: Answers(%d, %v): %v %v, want %v", what, n, l, got, err, answers)
	}
	if got, err := Spans(n, l); !slices.Equal(got, spans) || err != nil {
		t.Fatalf("%s: Spans(%d, %v): %v %v, want %v", what, n, l, got, err, spans)
	}
}

// oneByOne does events that are right on a graph, one behind the other, and gives what it answers.
func oneByOne(t *testing.T, n int, l []api.Event) []bool {
	t.Helper()
	g, err := graph.New(n)
	if err != nil {
		t.Fatalf("graph of %d nodes: %v", n, err)
	}
	var answers []bool
	for place, e := range l {
		var err error
		switch e.What {
		case api.Add:
			err = g.Add(e.A, e.B)
		case api.Drop:
			err = g.Drop(e.A, e.B)
		case api.Ask:
			var joined bool
			joined, err = g.Joined(e.A, e.B)
			answers = append(answers, joined)
		}
		if err != nil {
			t.Fatalf("graph of %d nodes: event %d of %v: %v", n, place, l, err)
		}
	}
	return answers
}

func sameEdge(x, y api.Event) bool {
	return x.A == y.A && x.B == y.B || x.A == y.B && x.B == y.A
}

// dropBehind gives the place of the first Drop of that edge behind its Add; plainly, by going through all.
func dropBehind(l []api.Event, place int) int {
	for i := place + 1; i < len(l); i++ {
		if l[i].What == api.Drop && sameEdge(l[i], l[place]) {
			return i
		}
	}
	return len(l)
}

func spansOf(l []api.Event) [][2]int {
	var out [][2]int
	for place, e := range l {
		if e.What == api.Add {
			out = append(out, [2]int{place, dropBehind(l, place)})
		}
	}
	return out
}

// wantAll asks all faces of events that are right, held against a graph.
func wantAll(t *testing.T, what string, n int, l []api.Event) {
	t.Helper()
	wantTold(t, what, n, l, oneByOne(t, n, l), spansOf(l))
}

// O1: ordinary events, what is told written out.
func TestOrdinary(t *testing.T) {
	l := []api.Event{
		add(0, 1), ask(0, 2), add(2, 1), ask(0, 2), add(0, 2), drop(1, 0), ask(0, 1),
		drop(2, 1), ask(1, 0), ask(2, 0), add(3, 4), ask(4, 3), ask(4, 0), ask(5, 5),
	}
	wantTold(t, "ordinary", 6, l, []bool{false, true, true, false, true, true, false, true}, [][2]int{{0, 5}, {2, 7}, {4, 14}, {10, 14}})
	wantAll(t, "ordinary", 6, l)
}

// O1: no event, as nil and as an empty list, at every n that may be.
func TestNoEvent(t *testing.T) {
	for n := 1; n <= api.MaxNodes; n++ {
		wantTold(t, "nil", n, nil, nil, nil)
		wantTold(t, "empty", n, []api.Event{}, nil, nil)
	}
}

// O1: n that may not be: ErrRange at 0, ahead of all that may be wrong with the events.
func TestNodesBeyond(t *testing.T) {
	for _, n := range append(beyond(1, api.MaxNodes), 0, 61) {
		for _, l := range [][]api.Event{nil, askings(1), many(4), many(api.MaxEvents + 1), {ask(0, 0), add(0, 0)}, {add(0, 1), add(0, 1)}, {drop(0, 1)}} {
			wantWrong(t, "n", n, l, 0, api.ErrRange)
		}
	}
}

// O1: as many events as may be, and one more: ErrFull at 0, ahead of all that may be wrong with one.
func TestManyEvents(t *testing.T) {
	for _, n := range []int{2, 3, api.MaxNodes} {
		for _, k := range []int{1, api.MaxEvents - 1, api.MaxEvents} {
			wantAll(t, "many", n, many(k))
		}
		for _, k := range []int{api.MaxEvents + 1, api.MaxEvents + 2, 2 * api.MaxEvents, 1000} {
			wantWrong(t, "too many", n, many(k), 0, api.ErrFull)
			for _, e := range []api.Event{{}, add(-1, 0), add(0, 0), drop(0, 1)} {
				l := many(k)
				l[0], l[1] = e, e
				wantWrong(t, "too many, and some wrong", n, l, 0, api.ErrFull)
			}
		}
	}
	wantAll(t, "of one node", 1, askings(120))
	wantWrong(t, "too many of one node", 1, askings(121), 0, api.ErrFull)
}

// O1: what lies behind a list's length is no event of it.
func TestBehindTheLength(t *testing.T) {
	l := many(api.MaxEvents + 8)
	wantTold(t, "the first", 2, l[:1], nil, [][2]int{{0, 1}})
	wantTold(t, "the first two", 2, l[:2], []bool{true}, [][2]int{{0, 2}})
	wantAll(t, "as many as may be", 2, l[:api.MaxEvents])
}

// O1: nodes at the edges are there, in both orders, at every n; and of themselves.
func TestNodesAtTheEdges(t *testing.T) {
	wantTold(t, "one node", 1, []api.Event{ask(0, 0)}, []bool{true}, nil)
	for n := 2; n <= api.MaxNodes; n++ {
		l := []api.Event{ask(0, n-1), add(n-1, 0), ask(0, n-1), ask(n-1, 0), drop(0, n-1), ask(n-1, 0), ask(n-1, n-1), ask(0, 0)}
		wantTold(t, "edges", n, l, []bool{false, true, true, false, true, true}, [][2]int{{1, 4}})
	}
}

// O1: of every What that may be, nodes that there are not, as either or both: ErrRange, ahead of ErrShape and ErrNone.
func TestEventNodesBeyond(t *testing.T) {
	for _, n := range []int{1, 2, 3, 59, api.MaxNodes} {
		for _, x := range beyond(0, n-1) {
			for _, pair := range [][2]int{{x, 0}, {0, x}, {n - 1, x}, {x, n - 1}, {x, x}, {x, -1}, {-1, x}} {
				for _, what := range []int{api.Add, api.Drop, api.Ask} {
					e := api.Event{What: what, A: pair[0], B: pair[1]}
					wantWrong(t, "alone", n, []api.Event{e}, 0, api.ErrRange)
					wantWrong(t, "last", n, []api.Event{ask(0, 0), ask(n-1, 0), e}, 2, api.ErrRange)
				}
			}
		}
	}
}

// O1: the place of an event is told of an n that it is beyond; of a greater n it is right.
func TestEventOfMoreNodes(t *testing.T) {
	l := []api.Event{ask(0, 0), add(0, 1), ask(1, 2), add(3, 2)}
	wantWrong(t, "one node", 1, l, 1, api.ErrRange)
	wantWrong(t, "two nodes", 2, l, 2, api.ErrRange)
	wantWrong(t, "three nodes", 3, l, 3, api.ErrRange)
	wantAll(t, "four nodes", 4, l)
}

// O1: a What that is none, on both sides: ErrRange, whatever else its nodes are.
func TestWhatBeyond(t *testing.T) {
	for _, what := range append(beyond(api.Add, api.Ask), 0, 4) {
		for _, pair := range [][2]int{{0, 1}, {1, 0}, {0, 0}, {0, 2}, {2, 2}, {-1, 0}, {60, 60}} {
			e := api.Event{What: what, A: pair[0], B: pair[1]}
			wantWrong(t, "alone", 3, []api.Event{e}, 0, api.ErrRange)
			wantWrong(t, "of an edge that is there", 3, []api.Event{add(0, 1), e, ask(0, 1)}, 1, api.ErrRange)
		}
	}
}

// O1: an edge of a node with itself: ErrShape of Add and of Drop, ahead of ErrNone; to ask for it is right.
func TestOneNode(t *testing.T) {
	for _, n := range []int{1, 2, 3, api.MaxNodes} {
		for _, a := range []int{0, n / 2, n - 1} {
			wantWrong(t, "Add", n, []api.Event{add(a, a)}, 0, api.ErrShape)
			wantWrong(t, "Drop", n, []api.Event{drop(a, a)}, 0, api.ErrShape)
			wantWrong(t, "Add behind", n, []api.Event{ask(a, a), add(a, a)}, 1, api.ErrShape)
			wantWrong(t, "Drop behind", n, []api.Event{ask(a, a), drop(a, a)}, 1, api.ErrShape)
			wantTold(t, "Ask", n, []api.Event{ask(a, a), ask(a, a)}, []bool{true, true}, nil)
		}
	}
}

// O1: an Add of an edge that is there is ErrClash, a Drop of one that is not ErrNone, in every order of their nodes.
func TestClashAndNone(t *testing.T) {
	orders := []func(what int) api.Event{
		func(what int) api.Event { return api.Event{What: what, A: 1, B: 2} },
		func(what int) api.Event { return api.Event{What: what, A: 2, B: 1} },
	}
	for _, x := range orders {
		wantWrong(t, "none at first", 3, []api.Event{x(api.Drop)}, 0, api.ErrNone)
		for _, y := range orders {
			wantWrong(t, "there", 3, []api.Event{x(api.Add), y(api.Add)}, 1, api.ErrClash)
			wantWrong(t, "there, and asked", 3, []api.Event{x(api.Add), ask(0, 1), y(api.Add)}, 2, api.ErrClash)
			wantWrong(t, "gone", 3, []api.Event{x(api.Add), y(api.Drop), x(api.Drop)}, 2, api.ErrNone)
			wantWrong(t, "gone", 3, []api.Event{x(api.Add), y(api.Drop), y(api.Drop)}, 2, api.ErrNone)
			wantWrong(t, "there again", 3, []api.Event{x(api.Add), y(api.Drop), x(api.Add), y(api.Add)}, 3, api.ErrClash)
			wantWrong(t, "gone again", 3, []api.Event{x(api.Add), y(api.Drop), y(api.Add), x(api.Drop), y(api.Drop)}, 4, api.ErrNone)
		}
	}
	wantWrong(t, "joined, but no edge", 3, []api.Event{add(0, 1), add(1, 2), drop(0, 2)}, 2, api.ErrNone)
	wantAll(t, "joined already, but no edge yet", 3, []api.Event{add(0, 1), add(1, 2), add(0, 2), ask(0, 2)})
	wantWrong(t, "a Drop is no Add of another", 4, []api.Event{add(0, 1), drop(2, 3)}, 1, api.ErrNone)
	wantWrong(t, "one gone, the other there", 4, []api.Event{add(0, 1), add(2, 3), drop(0, 1), add(3, 2)}, 3, api.ErrClash)
}

// O1: an Ask of two nodes neither makes their edge nor takes it.
func TestAskDoesNothing(t *testing.T) {
	wantWrong(t, "no edge by Ask", 2, []api.Event{ask(0, 1), drop(0, 1)}, 1, api.ErrNone)
	wantTold(t, "added behind Ask", 2, []api.Event{ask(0, 1), add(0, 1), ask(0, 1), ask(0, 1)}, []bool{false, true, true}, [][2]int{{1, 4}})
	wantTold(t, "dropped behind Ask", 2, []api.Event{add(0, 1), ask(1, 0), drop(0, 1)}, []bool{true}, [][2]int{{0, 2}})
}

// O1: of several events that are wrong the first is told, whatever is wrong with it, and with those behind it.
func TestFirstWrong(t *testing.T) {
	wrong := []struct {
		event api.Event
		want  api.Errno
	}{
		{api.Event{A: 2, B: 3}, api.ErrRange}, {api.Event{What: 4, A: 1, B: 1}, api.ErrRange},
		{ask(0, 4), api.ErrRange}, {add(-1, -1), api.ErrRange}, {drop(4, 0), api.ErrRange},
		{add(2, 2), api.ErrShape}, {drop(3, 3), api.ErrShape},
		{add(1, 0), api.ErrClash}, {add(0, 1), api.ErrClash},
		{drop(2, 3), api.ErrNone}, {drop(2, 0), api.ErrNone},
	}
	for _, x := range wrong {
		for _, y := range wrong {
			l := []api.Event{ask(3, 0), add(0, 1), x.event, y.event, ask(0, 1), y.event}
			wantWrong(t, "some wrong", 4, l, 2, x.want)
		}
	}
}

// O1: an event that is wrong at the last place that may be.
func TestWrongAtTheEnd(t *testing.T) {
	const last = api.MaxEvents - 1
	for _, x := range []struct {
		event api.Event
		want  api.Errno
	}{{api.Event{}, api.ErrRange}, {add(0, 2), api.ErrRange}, {add(1, 1), api.ErrShape}, {drop(0, 1), api.ErrNone}} {
		l := many(api.MaxEvents)
		l[last] = x.event
		wantWrong(t, "last", 2, l, last, x.want)
	}
	l := many(api.MaxEvents)
	l[last-1], l[last] = ask(0, 1), add(0, 1)
	wantWrong(t, "last", 2, l, last, api.ErrClash)
}

// O1: an edge that comes, goes and comes again: each Add has its own Drop, in whatever order its nodes are named.
func TestComesAgain(t *testing.T) {
	l := []api.Event{add(0, 1), drop(1, 0), ask(0, 1), add(1, 0), ask(0, 1), drop(1, 0), add(0, 1), ask(1, 0)}
	wantTold(t, "again", 2, l, []bool{false, true, true}, [][2]int{{0, 1}, {3, 5}, {6, 8}})
	var often []api.Event
	var spans [][2]int
	for i := range api.MaxEvents / 2 {
		often = append(often, add(0, 1), drop(1, 0))
		spans = append(spans, [2]int{2 * i, 2*i + 1})
	}
	wantTold(t, "often", 2, often, nil, spans)
}

// O1: Spans stand in the order of the Adds, however the Drops stand; of what is not dropped the end is how many events there are.
func TestSpansInOrder(t *testing.T) {
	first := []api.Event{add(0, 1), add(1, 2), add(2, 3)}
	wantTold(t, "first in, first out", 4, append(first[:3:3], drop(0, 1), drop(1, 2), drop(2, 3)), nil, [][2]int{{0, 3}, {1, 4}, {2, 5}})
	wantTold(t, "first in, last out", 4, append(first[:3:3], drop(2, 3), drop(1, 2), drop(0, 1)), nil, [][2]int{{0, 5}, {1, 4}, {2, 3}})
	wantTold(t, "all stay", 4, first, nil, [][2]int{{0, 3}, {1, 3}, {2, 3}})
	wantTold(t, "one stays", 4, append(first[:3:3], drop(2, 3), ask(0, 3), drop(1, 0)), []bool{false}, [][2]int{{0, 5}, {1, 6}, {2, 3}})
}

// O1: a chain that grows and breaks, and a ring that stays whole without any one edge.
func TestChainAndRing(t *testing.T) {
	var chain []api.Event
	for a := range 59 {
		chain = append(chain, add(a, a+1))
	}
	chain = append(chain, ask(0, 59), drop(30, 29), ask(59, 0), ask(0, 29), ask(30, 59))
	wantAll(t, "chain", api.MaxNodes, chain)
	var ring []api.Event
	const n = 20
	for a := range n {
		ring = append(ring, add(a, (a+1)%n))
	}
	for a := range n {
		ring = append(ring, drop((a+1)%n, a), ask(a, (a+1)%n), add(a, (a+1)%n))
	}
	wantTold(t, "ring", n, ring, slices.Repeat([]bool{true}, n), spansOf(ring))
	wantAll(t, "ring", n, ring)
}

// O1: at every length an edge over every stretch of Asks, with a second one beside it: the answers are right at each place of its halves.
func TestEveryStretch(t *testing.T) {
	for k := 2; k <= 14; k++ {
		for from := range k {
			for to := from + 1; to <= k; to++ {
				l := slices.Repeat([]api.Event{ask(0, 2)}, k)
				l[from] = add(1, 2)
				if to < k {
					l[to] = drop(2, 1)
				}
				wantAll(t, "one edge", 3, append([]api.Event{add(0, 1)}, l...))
				wantAll(t, "one edge", 3, append([]api.Event{add(0, 1)}, append(l, ask(0, 1))...))
			}
		}
	}
}

// anyEvents gives k events that are right, of n nodes; the more drops, the fewer edges are there.
func anyEvents(r *rand.Rand, n, k, drops int) []api.Event {
	var l []api.Event
	there := make(map[api.Edge]int)
	for len(l) < k {
		a, b := r.IntN(n), r.IntN(n)
		edge := api.Edge{A: min(a, b), B: max(a, b)}
		_, has := there[edge]
		switch {
		case a == b || r.IntN(3) == 0:
			l = append(l, ask(a, b))
		case !has:
			there[edge] = 0
			l = append(l, add(a, b))
		case r.IntN(10) < drops:
			delete(there, edge)
			l = append(l, drop(a, b))
		}
	}
	return l
}

// O1: events of any kind, held against a graph that does them one by one.
func TestAny(t *testing.T) {
	for seed := range uint64(200) {
		r := rand.New(rand.NewPCG(seed, 6))
		for _, drops := range []int{1, 5, 10} {
			few, some := 1+r.IntN(7), 5+r.IntN(20)
			wantAll(t, "few nodes", few, anyEvents(r, few, r.IntN(api.MaxEvents+1), drops))
			wantAll(t, "some nodes", some, anyEvents(r, some, api.MaxEvents, drops))
			wantAll(t, "many nodes", api.MaxNodes, anyEvents(r, api.MaxNodes, api.MaxEvents, drops))
		}
	}
}

// plainCheck tells the first event that is wrong, by going through all events ahead of each.
func plainCheck(n int, l []api.Event) (int, api.Errno) {
	for place, e := range l {
		there := false
		for _, x := range l[:place] {
			if x.What != api.Ask && sameEdge(x, e) {
				there = x.What == api.Add
			}
		}
		switch {
		case e.What < 1 || e.What > 3 || min(e.A, e.B) < 0 || max(e.A, e.B) >= n:
			return place, api.ErrRange
		case e.What != api.Ask && e.A == e.B:
			return place, api.ErrShape
		case e.What == api.Add && there:
			return place, api.ErrClash
		case e.What == api.Drop && !there:
			return place, api.ErrNone
		}
	}
	return 0, api.OK
}

// O1: events that are drawn without looking, most of them wrong somewhere.
func TestAnyCheck(t *testing.T) {
	told := make(map[api.Errno]int)
	for seed := range uint64(4000) {
		r := rand.New(rand.NewPCG(seed, 7))
		n := 1 + r.IntN(4)
		l := make([]api.Event, r.IntN(12))
		for i := range l {
			l[i] = api.Event{What: 1 + r.IntN(3), A: r.IntN(n), B: r.IntN(n)}
			if r.IntN(20) == 0 {
				l[i] = api.Event{What: r.IntN(5), A: r.IntN(n+2) - 1, B: r.IntN(n+2) - 1}
			}
		}
		place, want := plainCheck(n, l)
		told[want]++
		if want == api.OK {
			wantAll(t, "any", n, l)
		} else {
			wantWrong(t, "any", n, l, place, want)
		}
	}
	for _, e := range []api.Errno{api.OK, api.ErrRange, api.ErrShape, api.ErrClash, api.ErrNone} {
		if told[e] == 0 {
			t.Errorf("no events were drawn that tell %v", e)
		}
	}
}

// P2: what is handed in stays as it is, within its length and behind it, and what comes out is the caller's.
func TestListsAreTheCallers(t *testing.T) {
	memory := append(many(8), add(5, 5), drop(9, 9))
	was := slices.Clone(memory)
	l := memory[:8]
	answers, err := Answers(3, l)
	if err != nil {
		t.Fatal(err)
	}
	spans, err := Spans(3, l)
	if err != nil {
		t.Fatal(err)
	}
	if !slices.Equal(memory, was) {
		t.Errorf("what was handed in is %v, was %v", memory, was)
	}
	for i := range answers {
		answers[i] = !answers[i]
	}
	for i := range spans {
		spans[i] = [2]int{-1, -1}
	}
	wantTold(t, "again", 3, l, []bool{true, false, true, false}, [][2]int{{0, 2}, {4, 6}})
	wantWrong(t, "all", 3, memory, 8, api.ErrRange)
}
