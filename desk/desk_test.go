package desk

import (
	"fmt"
	"maps"
	"math"
	"math/rand/v2"
	"slices"
	"testing"

	"footbridge/api"
	"footbridge/disk"
	"footbridge/graph"
	"footbridge/note"
	"footbridge/plain"
	"footbridge/store"
)

// The numbers of the chapters, written out, so that a test does not lean on what the program made of them.
const (
	pages     = 62
	maxNodes  = 60
	maxEdges  = 200
	maxEvents = 120
)

func add(a, b int) api.Event  { return api.Event{What: 1, A: a, B: b} }
func drop(a, b int) api.Event { return api.Event{What: 2, A: a, B: b} }
func ask(a, b int) api.Event  { return api.Event{What: 3, A: a, B: b} }

func mustDisk(t *testing.T, n int) *disk.Disk {
	t.Helper()
	d, err := disk.New(n)
	if err != nil {
		t.Fatalf("disk.New(%d): %v", n, err)
	}
	return d
}

func mustOpen(t *testing.T, d *disk.Disk) *Desk {
	t.Helper()
	k, err := Open(d)
	if err != nil || k == nil {
		t.Fatalf("Open: %v %v", k, err)
	}
	return k
}

// mustDesk Formats a new disk, and Does these; nothing is Saved but by Format.
func mustDesk(t *testing.T, n int, l ...api.Event) (*disk.Disk, *Desk) {
	t.Helper()
	d := mustDisk(t, pages)
	wantFormat(t, d, n, api.OK)
	k := mustOpen(t, d)
	mustDo(t, k, l...)
	return d, k
}

// mustDo does events that have no error, as many at once as may be.
func mustDo(t *testing.T, k *Desk, l ...api.Event) {
	t.Helper()
	for some := range slices.Chunk(l, maxEvents) {
		if _, err := k.Do(some); err != nil {
			t.Fatalf("Do of %v: %v", some, err)
		}
	}
}

// wantErr asks for the error of a call, or that there is none.
func wantErr(t *testing.T, name string, err error, want api.Errno) {
	t.Helper()
	if got := plain.Told(err); got != want {
		t.Fatalf("%s: error %v, want %v", name, err, want)
	}
}

func wantFormat(t *testing.T, d *disk.Disk, n int, want api.Errno) {
	t.Helper()
	wantErr(t, fmt.Sprintf("Format of %d pages, %d nodes", d.Pages(), n), Format(d, n), want)
}

func wantSave(t *testing.T, k *Desk, want api.Errno) {
	t.Helper()
	wantErr(t, "Save", k.Save(), want)
}

// wantDo asks for the answers of events that have no error.
func wantDo(t *testing.T, k *Desk, l []api.Event, want ...bool) {
	t.Helper()
	got, err := k.Do(l)
	if !slices.Equal(got, want) || err != nil {
		t.Fatalf("Do of %v: %v %v, want %v", l, got, err, want)
	}
}

// wantRefused asks for the error of events, that no answer is given, and that the desk is as it was.
func wantRefused(t *testing.T, k *Desk, l []api.Event, want api.Errno) {
	t.Helper()
	n, was, turn := k.Nodes(), k.Graph().Edges(), k.Turn()
	got, err := k.Do(l)
	if len(got) != 0 || plain.Told(err) != want {
		t.Fatalf("Do of %v: %v %v, want %v alone", l, got, err, want)
	}
	wantHas(t, k, n, was, turn)
}

// wantHas asks what a desk has.
func wantHas(t *testing.T, k *Desk, n int, l []api.Edge, turn int) {
	t.Helper()
	g := k.Graph()
	if k.Nodes() != n || !slices.Equal(g.Edges(), l) || k.Turn() != turn {
		t.Fatalf("nodes %d, edges %v, Turn %d, want %d, %v, %d", k.Nodes(), g.Edges(), k.Turn(), n, l, turn)
	}
	if _, err := g.Size(n - 1); err != nil {
		t.Fatalf("the graph has no node %d: %v", n-1, err)
	}
	if _, err := g.Size(n); plain.Told(err) != api.ErrRange {
		t.Fatalf("the graph has a node %d: %v", n, err)
	}
}

// wantKept asks what who Opens has.
func wantKept(t *testing.T, d *disk.Disk, n int, l []api.Edge, turn int) {
	t.Helper()
	wantHas(t, mustOpen(t, d), n, l, turn)
}

// wantNone asks that Open finds no desk.
func wantNone(t *testing.T, d *disk.Disk) {
	t.Helper()
	if k, err := Open(d); k != nil || plain.Told(err) != api.ErrSyntax {
		t.Fatalf("Open: %v %v, want ErrSyntax alone", k, err)
	}
}

// beyond gives numbers that are none from low to high.
func beyond(low, high int) []int {
	return []int{low - 1, low - 2, high + 1, high + 2, high + 256, 256 + low, -high, 1 << 32, 1<<32 + 1, math.MinInt, math.MinInt + 1, math.MaxInt}
}

// edges gives the first so many that n nodes may have, by how far their nodes are from each other, in an order that does not rise.
func edges(n, many int) []api.Edge {
	var l []api.Edge
	for gap := 1; gap < n; gap++ {
		for a := 0; a+gap < n && len(l) < many; a++ {
			l = append(l, api.Edge{A: a, B: a + gap})
		}
	}
	return l
}

// rising gives edges in the order in which they are told.
func rising(l []api.Edge) []api.Edge {
	l = slices.Clone(l)
	slices.SortFunc(l, func(x, y api.Edge) int { return (x.A-y.A)*maxNodes + x.B - y.B })
	return l
}

// adds gives an Add of each edge; of every second one the greater node is named first.
func adds(l []api.Edge) []api.Event {
	var out []api.Event
	for i, e := range l {
		if i%2 == 1 {
			e.A, e.B = e.B, e.A
		}
		out = append(out, add(e.A, e.B))
	}
	return out
}

// off turns the power off.
func off(t *testing.T, d *disk.Disk) {
	t.Helper()
	d.Fail(0)
	wantErr(t, "Sync", d.Sync(), api.ErrDown)
}

// bytesOf a disk, page by page.
func bytesOf(t *testing.T, d *disk.Disk) []byte {
	t.Helper()
	var out []byte
	for at := range d.Pages() {
		b, err := d.Read(at)
		wantErr(t, "Read", err, api.OK)
		out = append(out, b...)
	}
	return out
}

// D1: a desk of each number of nodes that may be: no edge, and Turn 1, as no edges were Saved once; it is kept.
func TestFormat(t *testing.T) {
	for n := 1; n <= maxNodes; n++ {
		d := mustDisk(t, pages+n%3)
		wantNone(t, d)
		wantFormat(t, d, n, api.OK)
		wantKept(t, d, n, nil, 1)
		d.Crash(nil)
		wantKept(t, d, n, nil, 1)
		k := mustOpen(t, d)
		for a := range n {
			wantDo(t, k, []api.Event{ask(a, a), ask(0, a)}, true, a == 0)
		}
		if got := k.Graph().Parts(); got != n {
			t.Errorf("Parts of %d nodes: %d", n, got)
		}
	}
}

// D1: a number of nodes that may not be comes ahead of a disk of too few pages, and that ahead of ErrDown; nothing is changed, and no step is done.
func TestFormatErrors(t *testing.T) {
	bad := append(beyond(1, maxNodes), -255, -256)
	for _, size := range []int{1, 2, 61, 62, 80} {
		d := mustDisk(t, size)
		for at := range size {
			wantErr(t, "Write", d.Write(at, []byte{byte(at), 5}), api.OK)
		}
		was := bytesOf(t, d)
		want := func(off string) {
			t.Helper()
			for _, n := range bad {
				wantFormat(t, d, n, api.ErrRange)
			}
			for _, n := range []int{1, 30, maxNodes} {
				if size < pages {
					wantFormat(t, d, n, api.ErrFull)
				} else if off != "" {
					wantFormat(t, d, n, api.ErrDown)
				}
			}
			wantNone(t, d)
			if !slices.Equal(bytesOf(t, d), was) {
				t.Errorf("a Format with an error changed a disk of %d pages%s", size, off)
			}
		}
		d.Fail(0)
		want("")
		wantErr(t, "Sync", d.Sync(), api.ErrDown)
		want(" without power")
	}
}

// D1: Format of a disk that a desk is on already: another number of nodes, no edge, Turn 1, and Saves count from there.
func TestFormatAgain(t *testing.T) {
	for saves := range 4 {
		d, k := mustDesk(t, 20, adds(edges(20, 40))...)
		for range saves {
			wantSave(t, k, api.OK)
		}
		for _, n := range []int{5, 5, 60, 1, 3} {
			wantFormat(t, d, n, api.OK)
			wantKept(t, d, n, nil, 1)
			d.Crash(nil)
			wantKept(t, d, n, nil, 1)
		}
		k = mustOpen(t, d)
		mustDo(t, k, add(2, 0))
		wantSave(t, k, api.OK)
		wantHas(t, k, 3, []api.Edge{{A: 0, B: 2}}, 2)
		wantKept(t, d, 3, []api.Edge{{A: 0, B: 2}}, 2)
	}
}

// D1: a Format that is refused leaves the desk that is there.
func TestFormatRefused(t *testing.T) {
	d, k := mustDesk(t, 4, add(1, 3))
	wantSave(t, k, api.OK)
	for _, n := range beyond(1, maxNodes) {
		wantFormat(t, d, n, api.ErrRange)
	}
	wantKept(t, d, 4, []api.Edge{{A: 1, B: 3}}, 2)
	off(t, d)
	wantFormat(t, d, 7, api.ErrDown)
	wantKept(t, d, 4, []api.Edge{{A: 1, B: 3}}, 2)
	d.Crash(nil)
	wantHas(t, k, 4, []api.Edge{{A: 1, B: 3}}, 2)
	wantKept(t, d, 4, []api.Edge{{A: 1, B: 3}}, 2)
}

// D1: a disk that was never Formatted, of each size, with and without power; and one on which a store keeps none.
func TestOpenNone(t *testing.T) {
	for size := 1; size <= 80; size++ {
		d := mustDisk(t, size)
		wantNone(t, d)
		if size >= pages {
			wantErr(t, "store.Format", store.Format(d), api.OK)
			wantNone(t, d)
		}
		off(t, d)
		wantNone(t, d)
		d.Crash(nil)
		wantNone(t, d)
	}
}

// keep Saves bytes by a store.
func keep(t *testing.T, d *disk.Disk, b []byte) {
	t.Helper()
	s, err := store.Open(d)
	wantErr(t, "store.Open", err, api.OK)
	wantErr(t, "store.Save", s.Save(b), api.OK)
}

// D1: what a store keeps that are no edges' bytes is refused: another length than they say, numbers that may not be, edges that do not rise.
func TestOpenOther(t *testing.T) {
	d := mustDisk(t, pages)
	wantErr(t, "store.Format", store.Format(d), api.OK)
	full, err := note.Encode(maxNodes, rising(edges(maxNodes, maxEdges)))
	wantErr(t, "Encode", err, api.OK)
	tooMany := append([]byte{maxNodes, maxEdges + 1}, full[2:]...)
	other := [][]byte{
		{}, {0}, {3}, {255}, {0, 0}, {61, 0}, {255, 0}, {3, 1}, {3, 1, 0}, {3, 0, 0}, {3, 0, 0, 1}, {3, 1, 0, 1, 0}, {3, 1, 0, 1, 1, 2},
		{3, 1, 0, 3}, {3, 1, 1, 1}, {3, 1, 1, 0}, {1, 1, 0, 1}, {3, 2, 0, 1, 0, 1}, {3, 2, 1, 2, 0, 1}, {3, 2, 0, 1, 255, 2},
		[]byte("footbridge"), full[:len(full)-1], full[:2], append(slices.Clone(full), 0), append(tooMany, 58, 59), make([]byte, 960),
	}
	for i, b := range other {
		keep(t, d, b)
		wantNone(t, d)
		d.Crash(nil)
		wantNone(t, d)
		keep(t, d, []byte{3, 1, 0, 2})
		wantKept(t, d, 3, []api.Edge{{A: 0, B: 2}}, 2*i+2)
	}
}

// D1: what is kept are just chapter 9's bytes: those that a store keeps are a desk's, and the other way round.
func TestKeptBytes(t *testing.T) {
	for _, n := range []int{1, 2, 3, 12, 20, maxNodes} {
		for _, many := range []int{0, 1, 2, 15, 16, 100, 199, 200} {
			l := rising(edges(n, many))
			b, err := note.Encode(n, l)
			wantErr(t, "Encode", err, api.OK)
			d := mustDisk(t, pages)
			wantErr(t, "store.Format", store.Format(d), api.OK)
			keep(t, d, b)
			wantKept(t, d, n, l, 1)

			d, k := mustDesk(t, n, adds(edges(n, many))...)
			wantSave(t, k, api.OK)
			s, err := store.Open(d)
			wantErr(t, "store.Open", err, api.OK)
			if !slices.Equal(s.Load(), b) || s.Turn() != 2 {
				t.Fatalf("%d edges of %d nodes are kept as %v, Turn %d, want %v", many, n, s.Load(), s.Turn(), b)
			}
		}
	}
}

// D1: each Save keeps the edges that there are then, and Turn is one more; what is done behind it is not kept.
func TestSave(t *testing.T) {
	d, k := mustDesk(t, maxNodes)
	l := edges(maxNodes, maxEdges)
	for i := range l {
		wantHas(t, k, maxNodes, rising(l[:i]), i+1)
		wantKept(t, d, maxNodes, rising(l[:i]), i+1)
		mustDo(t, k, adds(l[i:i+1])...)
		wantHas(t, k, maxNodes, rising(l[:i+1]), i+1)
		wantKept(t, d, maxNodes, rising(l[:i]), i+1)
		wantSave(t, k, api.OK)
		if i%7 == 0 {
			k = mustOpen(t, d)
		}
	}
	wantRefused(t, k, []api.Event{add(0, 59)}, api.ErrFull)
	wantSave(t, k, api.OK)
	wantKept(t, d, maxNodes, rising(l), maxEdges+2)
	for i, e := range l {
		mustDo(t, k, drop(e.B, e.A))
		wantSave(t, k, api.OK)
		wantKept(t, d, maxNodes, rising(l[i+1:]), maxEdges+3+i)
	}
}

// D1: a Save where nothing was done is a Save; a desk that never Saved tells the Turn that it was Opened with.
func TestSaveSame(t *testing.T) {
	d, k := mustDesk(t, 3, add(0, 1))
	for turn := 2; turn < 9; turn++ {
		wantSave(t, k, api.OK)
		wantHas(t, k, 3, []api.Edge{{A: 0, B: 1}}, turn)
		wantKept(t, d, 3, []api.Edge{{A: 0, B: 1}}, turn)
	}
	idle := mustOpen(t, d)
	wantSave(t, k, api.OK)
	wantHas(t, idle, 3, []api.Edge{{A: 0, B: 1}}, 8)
	mustDo(t, idle, add(1, 2))
	wantSave(t, idle, api.OK)
	wantKept(t, d, 3, []api.Edge{{A: 0, B: 1}, {A: 1, B: 2}}, 10)
}

// D1: two desks on two disks have nothing in common.
func TestTwoDisks(t *testing.T) {
	d, k := mustDesk(t, 3, add(0, 1))
	e, u := mustDesk(t, 4, add(2, 3))
	off(t, e)
	wantSave(t, u, api.ErrDown)
	wantSave(t, k, api.OK)
	mustDo(t, k, drop(0, 1))
	wantHas(t, k, 3, nil, 2)
	wantHas(t, u, 4, []api.Edge{{A: 2, B: 3}}, 1)
	e.Crash(nil)
	wantKept(t, d, 3, []api.Edge{{A: 0, B: 1}}, 2)
	wantKept(t, e, 4, nil, 1)
}

// D2: each event alone, its nodes in either order, at the ends of the nodes.
func TestDoAlone(t *testing.T) {
	for _, n := range []int{2, 3, 20, maxNodes} {
		for _, e := range [][2]int{{0, 1}, {1, 0}, {0, n - 1}, {n - 1, 0}, {n - 2, n - 1}} {
			a, b := e[0], e[1]
			_, k := mustDesk(t, n)
			wantDo(t, k, []api.Event{ask(a, b)}, false)
			wantDo(t, k, []api.Event{add(a, b)})
			wantDo(t, k, []api.Event{ask(b, a)}, true)
			wantHas(t, k, n, []api.Edge{{A: min(a, b), B: max(a, b)}}, 1)
			wantDo(t, k, []api.Event{drop(b, a)})
			wantDo(t, k, []api.Event{ask(a, b)}, false)
			wantDo(t, k, []api.Event{ask(a, a)}, true)
			wantHas(t, k, n, nil, 1)
		}
	}
}

// D2: no event is done without an error, gives no answer, and changes nothing.
func TestDoNone(t *testing.T) {
	_, k := mustDesk(t, 3, add(0, 2))
	wantDo(t, k, nil)
	wantDo(t, k, []api.Event{})
	wantDo(t, k, make([]api.Event, 0, 5))
	wantHas(t, k, 3, []api.Edge{{A: 0, B: 2}}, 1)
}

// D2: events are done one behind the other, the answers are in order, and an Ask is of what is there then.
func TestDoMany(t *testing.T) {
	_, k := mustDesk(t, 4)
	wantDo(t, k, []api.Event{
		ask(0, 2), add(0, 1), ask(0, 1), ask(0, 2), add(2, 1), ask(2, 0), drop(0, 1), ask(0, 2), ask(1, 2), add(1, 0), ask(0, 2), ask(3, 0), ask(3, 3),
	}, false, true, false, true, false, true, true, false, true)
	wantHas(t, k, 4, []api.Edge{{A: 0, B: 1}, {A: 1, B: 2}}, 1)
	wantDo(t, k, []api.Event{drop(1, 2), ask(0, 2), ask(0, 1)}, false, true)
	wantHas(t, k, 4, []api.Edge{{A: 0, B: 1}}, 1)
}

// D2: as many events as may be, of each kind, and one more: that comes ahead of what else is wrong with them.
func TestDoFull(t *testing.T) {
	_, k := mustDesk(t, 5, add(3, 4))
	turns := func(n int) []api.Event {
		var l []api.Event
		for i := range n {
			l = append(l, [...]api.Event{add(0, 1), ask(0, 1), drop(1, 0), ask(0, 1)}[i%4])
		}
		return l
	}
	answers := slices.Repeat([]bool{true, false}, maxEvents/4)
	wantDo(t, k, turns(maxEvents), answers...)
	wantDo(t, k, slices.Repeat([]api.Event{ask(4, 3)}, maxEvents), slices.Repeat([]bool{true}, maxEvents)...)
	for _, n := range []int{maxEvents + 1, maxEvents + 2, 2 * maxEvents, 256, 256 + 5, 1 << 16} {
		wantRefused(t, k, turns(n), api.ErrFull)
		wantRefused(t, k, slices.Repeat([]api.Event{ask(0, 0)}, n), api.ErrFull)
		wantRefused(t, k, make([]api.Event, n), api.ErrFull)
		wantRefused(t, k, slices.Repeat([]api.Event{drop(0, 1)}, n), api.ErrFull)
	}
	wantRefused(t, k, make([]api.Event, maxEvents), api.ErrRange)
	wantDo(t, k, turns(maxEvents), answers...)
	wantHas(t, k, 5, []api.Edge{{A: 3, B: 4}}, 1)
}

// wrong gives events that have an error for a desk of n nodes that has an edge between 0 and 1 alone, by their error.
func wrong(n int) map[api.Errno][]api.Event {
	m := map[api.Errno][]api.Event{
		api.ErrShape: {add(0, 0), add(n-1, n-1)},
		api.ErrClash: {add(0, 1), add(1, 0)},
		api.ErrNone:  {drop(0, 2), drop(2, 1), drop(0, 0), drop(n-1, n-1)},
	}
	for _, what := range beyond(1, 3) {
		m[api.ErrRange] = append(m[api.ErrRange], api.Event{What: what, A: 0, B: 1}, api.Event{What: what, A: 2, B: 2}, api.Event{What: what, A: n, B: -1})
	}
	for _, x := range append(beyond(0, n-1), n+1) {
		for what := 1; what <= 3; what++ {
			for _, l := range [][2]int{{x, 0}, {0, x}, {x, x}, {n - 1, x}, {x, -1}} {
				m[api.ErrRange] = append(m[api.ErrRange], api.Event{What: what, A: l[0], B: l[1]})
			}
		}
	}
	return m
}

// D2: each error that an event can have, alone, first, in the middle and last: none of the events is done, no answer is given, and what is done behind it goes on from what there was.
func TestDoErrors(t *testing.T) {
	for _, n := range []int{3, 20, maxNodes} {
		d, k := mustDesk(t, n, add(0, 1))
		good := []api.Event{ask(0, 1), add(0, 2), drop(0, 2), ask(0, 2), add(1, 2), drop(1, 0), ask(0, 1), add(0, 1), drop(2, 1), ask(1, 2)}
		for err, l := range wrong(n) {
			for _, e := range l {
				wantRefused(t, k, []api.Event{e}, err)
				for at := range len(good) + 1 {
					if at > 4 && at < 9 && err != api.ErrRange { // an edge comes and goes there
						continue
					}
					wantRefused(t, k, slices.Insert(slices.Clone(good), at, e), err)
				}
				wantDo(t, k, good, true, false, false, false)
				wantHas(t, k, n, []api.Edge{{A: 0, B: 1}}, 1)
			}
		}
		wantSave(t, k, api.OK)
		wantKept(t, d, n, []api.Edge{{A: 0, B: 1}}, 2)
	}
}

// D2: of several errors the first event's is told, whatever those behind it have.
func TestDoFirstError(t *testing.T) {
	_, k := mustDesk(t, 3, add(0, 1))
	m := wrong(3)
	for first, l := range m {
		for second, u := range m {
			if first != second {
				wantRefused(t, k, []api.Event{l[0], u[0]}, first)
				wantRefused(t, k, []api.Event{ask(0, 2), add(0, 2), l[1], ask(1, 2), u[1], l[0]}, first)
			}
		}
	}
}

// D2: an error that is there only by what is done ahead of it in the same Do.
func TestDoErrorByEvents(t *testing.T) {
	_, k := mustDesk(t, 4, add(0, 1), add(1, 2))
	for _, c := range []struct {
		l   []api.Event
		err api.Errno
	}{
		{[]api.Event{add(0, 2), add(2, 0)}, api.ErrClash},
		{[]api.Event{drop(0, 1), drop(1, 0)}, api.ErrNone},
		{[]api.Event{drop(0, 1), add(0, 1), add(0, 1)}, api.ErrClash},
		{[]api.Event{add(3, 0), drop(0, 3), drop(0, 3)}, api.ErrNone},
		{[]api.Event{drop(0, 1), drop(1, 2), add(0, 3), ask(0, 1), ask(4, 0)}, api.ErrRange},
		{[]api.Event{drop(0, 1), drop(1, 2), add(2, 3), {}}, api.ErrRange},
	} {
		wantRefused(t, k, c.l, c.err)
		wantDo(t, k, []api.Event{ask(0, 2), ask(0, 3), ask(2, 3)}, true, false, false)
	}
	wantDo(t, k, []api.Event{drop(0, 1), add(0, 1), drop(1, 2), ask(0, 2)}, false)
	wantHas(t, k, 4, []api.Edge{{A: 0, B: 1}}, 1)
}

// D2: as many edges as may be, and one more: ErrFull, behind all else that may be wrong with that Add; a Drop ahead of it makes place.
func TestDoEdgesFull(t *testing.T) {
	l := edges(maxNodes, maxEdges+1)
	last := l[maxEdges]
	_, k := mustDesk(t, maxNodes, adds(l[:maxEdges-1])...)
	one := l[maxEdges-1]
	wantRefused(t, k, []api.Event{add(one.A, one.B), ask(0, 1), add(last.A, last.B)}, api.ErrFull)
	wantRefused(t, k, []api.Event{drop(0, 1), add(one.A, one.B), add(0, 1), add(last.A, last.B)}, api.ErrFull)
	wantDo(t, k, []api.Event{add(one.B, one.A), ask(0, 59)}, true)
	wantHas(t, k, maxNodes, rising(l[:maxEdges]), 1)
	wantRefused(t, k, []api.Event{add(last.A, last.B)}, api.ErrFull)
	wantRefused(t, k, []api.Event{add(0, 1)}, api.ErrClash)
	wantRefused(t, k, []api.Event{add(2, 2)}, api.ErrShape)
	wantRefused(t, k, []api.Event{drop(0, 1), add(last.A, last.B), add(0, 1)}, api.ErrFull)
	wantDo(t, k, []api.Event{drop(0, 1), add(last.A, last.B)})
	wantHas(t, k, maxNodes, rising(l[1:]), 1)
}

// D2 (P2 of all): what was handed to Do is neither kept nor written into, in its length and behind it.
func TestDoKeepsNothing(t *testing.T) {
	all := []api.Event{ask(0, 1), add(0, 1), ask(1, 0), add(1, 2), drop(0, 1), {What: 9}, add(0, 3)}
	for _, k := range []int{0, 1, 5, 6, 7} {
		l := slices.Clone(all)
		d, desk := mustDesk(t, 4)
		_, err := desk.Do(l[:k])
		if !slices.Equal(l, all) {
			t.Fatalf("Do of %d events wrote into them: %v", k, l)
		}
		was := desk.Graph().Edges()
		clear(l)
		wantHas(t, desk, 4, was, 1)
		wantSave(t, desk, api.OK)
		mustDo(t, desk, add(0, 2))
		wantKept(t, d, 4, was, 2)
		if !slices.Equal(l, make([]api.Event, len(l))) || (err == nil) != (k < 6) {
			t.Fatalf("Do of %d events: %v; they are %v behind the call", k, err, l)
		}
	}
}

// D2 (P2 of all): what Do gave is the caller's: no two answers share memory, and none changes behind the call.
func TestDoGivesFresh(t *testing.T) {
	_, k := mustDesk(t, 3, add(0, 1))
	l := []api.Event{ask(0, 1), ask(0, 2), ask(1, 1)}
	want := []bool{true, false, true}
	first, _ := k.Do(l)
	second, _ := k.Do(l)
	first = first[:cap(first)]
	for i := range first {
		first[i] = !first[i]
	}
	if !slices.Equal(second, want) {
		t.Errorf("two Dos share memory: %v", second)
	}
	wantDo(t, k, l, want...)
	mustDo(t, k, drop(0, 1), ask(0, 1), ask(1, 2), ask(0, 2))
	if !slices.Equal(second, want) {
		t.Errorf("what Do gave is %v behind another Do", second)
	}
	wantHas(t, k, 3, nil, 1)
}

// D2 (P2 of all): Graph is a graph of its own: what is done to it is not done to the desk, nor to another Graph, nor the other way round.
func TestGraphIsItsOwn(t *testing.T) {
	d, k := mustDesk(t, 4, add(0, 1), add(1, 2))
	was := []api.Edge{{A: 0, B: 1}, {A: 1, B: 2}}
	g, u := k.Graph(), k.Graph()
	wantErr(t, "Drop", g.Drop(0, 1), api.OK)
	wantErr(t, "Add", g.Add(2, 3), api.OK)
	wantHas(t, k, 4, was, 1)
	wantDo(t, k, []api.Event{ask(0, 2), ask(2, 3)}, true, false)
	if !slices.Equal(u.Edges(), was) {
		t.Errorf("two Graphs share their edges: %v", u.Edges())
	}
	wantSave(t, k, api.OK)
	wantKept(t, d, 4, was, 2)
	mustDo(t, k, drop(1, 2), add(0, 3))
	wantRefused(t, k, []api.Event{add(1, 3), add(1, 1)}, api.ErrShape)
	if !slices.Equal(u.Edges(), was) || !slices.Equal(g.Edges(), []api.Edge{{A: 1, B: 2}, {A: 2, B: 3}}) {
		t.Errorf("a Do was done to a Graph: %v %v", u.Edges(), g.Edges())
	}
	wantHas(t, k, 4, []api.Edge{{A: 0, B: 1}, {A: 0, B: 3}}, 2)
	l := k.Graph().Edges()
	clear(l)
	wantHas(t, k, 4, []api.Edge{{A: 0, B: 1}, {A: 0, B: 3}}, 2)
}

// wantSameGraph asks that a graph tells of all nodes what one with these edges tells.
func wantSameGraph(t *testing.T, g *graph.Graph, n int, l []api.Edge) {
	t.Helper()
	want, err := graph.New(n)
	wantErr(t, "graph.New", err, api.OK)
	for _, e := range l {
		wantErr(t, "Add", want.Add(e.A, e.B), api.OK)
	}
	if !slices.Equal(g.Edges(), want.Edges()) || g.Parts() != want.Parts() || len(g.Tree()) != n-want.Parts() {
		t.Fatalf("edges %v, Parts %d, Tree %v, want %v, %d", g.Edges(), g.Parts(), g.Tree(), want.Edges(), want.Parts())
	}
	for a := range n {
		for b := range n {
			got, _ := g.Joined(a, b)
			has, _ := g.Has(a, b)
			if joined, _ := want.Joined(a, b); got != joined || has != slices.Contains(l, api.Edge{A: a, B: b}) && has != slices.Contains(l, api.Edge{A: b, B: a}) {
				t.Fatalf("%d and %d: Joined %v, Has %v, of %v", a, b, got, has, l)
			}
		}
	}
}

// D2: Graph is a graph of all nodes with just the edges, behind whatever came and went; it can go on.
func TestGraph(t *testing.T) {
	for _, n := range []int{1, 2, 3, 20, maxNodes} {
		d, k := mustDesk(t, n)
		wantSameGraph(t, k.Graph(), n, nil)
		l := edges(n, maxEdges)
		mustDo(t, k, adds(l)...)
		wantSameGraph(t, k.Graph(), n, l)
		wantSave(t, k, api.OK)
		wantSameGraph(t, mustOpen(t, d).Graph(), n, l)
		for len(l) > 0 {
			gone := l[:min(7, len(l))]
			l = l[len(gone):]
			for _, e := range gone {
				mustDo(t, k, drop(e.A, e.B))
			}
			g := k.Graph()
			wantSameGraph(t, g, n, l)
			for _, e := range gone {
				wantErr(t, "Add", g.Add(e.B, e.A), api.OK)
			}
			wantSameGraph(t, g, n, slices.Concat(l, gone))
		}
	}
}

// choices of Writes to be kept, of about so many: none, all, drawn ones, each one alone, all but one. Where there are many Writes each one alone takes long, and is left out.
func choices(r *rand.Rand, writes int) [][]int {
	var l [][]int
	add := func(kept func(i int) bool) {
		var keep []int
		for i := range writes {
			if kept(i) {
				keep = append(keep, i)
			}
		}
		l = append(l, keep)
	}
	add(func(int) bool { return false })
	add(func(int) bool { return true })
	for range 6 {
		drawn := r.Uint64()
		add(func(i int) bool { return drawn>>i&1 == 1 })
	}
	if writes > 8 {
		return l
	}
	for one := range writes {
		add(func(i int) bool { return i == one })
		add(func(i int) bool { return i != one })
	}
	return l
}

// steps of what is done: how many of them must not fail for it to say no error.
func steps(t *testing.T, d *disk.Disk, do func() error) int {
	t.Helper()
	const far = 1000
	d.Fail(far)
	wantErr(t, "a call with no step that fails", do(), api.OK)
	left := 0
	for d.Sync() == nil {
		left++
	}
	d.Crash(nil)
	return far - left
}

// savings are how many edges were Saved, and how many are being Saved.
func savings() [][2]int {
	return [][2]int{{0, 0}, {0, 1}, {1, 0}, {15, 16}, {30, 10}, {20, 47}, {200, 200}}
}

// deskOf Saves the first edges of all, as often as ahead says, and then Does that there are the last ones.
func deskOf(t *testing.T, first, last, ahead int) (d *disk.Disk, k *Desk, was, next []api.Edge) {
	t.Helper()
	l := edges(maxNodes, 2*maxEdges)
	was, next = l[:first], l[len(l)-last:]
	d, k = mustDesk(t, maxNodes, adds(was)...)
	for range ahead {
		wantSave(t, k, api.OK)
	}
	for _, e := range was {
		mustDo(t, k, drop(e.A, e.B))
	}
	mustDo(t, k, adds(next)...)
	return d, k, rising(was), rising(next)
}

// change does something, be there as many edges as may be or none, and gives the edges that there are then.
func change(t *testing.T, k *Desk, was []api.Edge) []api.Edge {
	t.Helper()
	if len(was) == maxEdges {
		mustDo(t, k, drop(was[0].B, was[0].A))
		return was[1:]
	}
	mustDo(t, k, add(59, 0))
	return rising(append(slices.Clone(was), api.Edge{A: 0, B: 59}))
}

// wantEither asks that who Opens has what was Saved, or what was being Saved, with the Turn that goes with it.
func wantEither(t *testing.T, d *disk.Disk, was, next []api.Edge, turn int) *Desk {
	t.Helper()
	k := mustOpen(t, d)
	if k.Turn() == turn {
		wantHas(t, k, maxNodes, was, turn)
	} else {
		wantHas(t, k, maxNodes, next, turn+1)
	}
	return k
}

// D1, D2: wherever the power goes off in a Save, and whatever is kept: the edges are those of the last Save, or those that were being Saved, and all goes on from there. The desk says ErrDown from then on, and has its edges and its Turn; it goes on with what it Does.
func TestSaveThroughFailure(t *testing.T) {
	r := rand.New(rand.NewPCG(12, 1))
	for i, c := range savings() {
		ahead := 1 + i%2
		turn := 1 + ahead
		d, k, _, _ := deskOf(t, c[0], c[1], ahead)
		n := steps(t, d, k.Save)
		for fail := range n {
			for _, keep := range choices(r, n) {
				d, k, was, next := deskOf(t, c[0], c[1], ahead)
				d.Fail(fail)
				wantSave(t, k, api.ErrDown)
				wantSave(t, k, api.ErrDown)
				wantHas(t, k, maxNodes, next, turn)
				wantEither(t, d, was, next, turn)
				d.Crash(keep)
				wantSave(t, k, api.ErrDown)
				wantHas(t, k, maxNodes, next, turn)
				u := wantEither(t, d, was, next, turn)
				then, there := u.Turn(), u.Graph().Edges()
				wantHas(t, k, maxNodes, change(t, k, next), turn)
				wantSave(t, k, api.ErrDown)
				wantKept(t, d, maxNodes, there, then)
				there = change(t, u, there)
				wantSave(t, u, api.OK)
				wantKept(t, d, maxNodes, there, then+1)
			}
		}
	}
}

// D1, D2: behind a Save without an error what was Saved is there, whatever is kept; what was done behind it is not.
func TestSaveIsKept(t *testing.T) {
	r := rand.New(rand.NewPCG(12, 2))
	for _, c := range savings() {
		d, k, _, _ := deskOf(t, c[0], c[1], 1)
		n := steps(t, d, k.Save)
		for _, fail := range []int{n, n + 1, n + 100, -1} {
			for _, keep := range choices(r, n) {
				d, k, _, next := deskOf(t, c[0], c[1], 1)
				d.Fail(fail)
				wantSave(t, k, api.OK)
				more := change(t, k, next)
				d.Crash(keep)
				wantHas(t, k, maxNodes, more, 3)
				wantKept(t, d, maxNodes, next, 3)
			}
		}
	}
}

// D2: what was done and not Saved is not there behind a Crash for who Opens, but the desk has it, and may Save it.
func TestNotSaved(t *testing.T) {
	for _, without := range []bool{false, true} {
		d, k := mustDesk(t, 5, add(0, 1))
		wantSave(t, k, api.OK)
		mustDo(t, k, drop(0, 1), add(3, 4))
		if without {
			off(t, d)
			wantDo(t, k, []api.Event{add(0, 2), ask(0, 2), drop(2, 0)}, true)
			wantKept(t, d, 5, []api.Edge{{A: 0, B: 1}}, 2)
		}
		d.Crash(nil)
		wantKept(t, d, 5, []api.Edge{{A: 0, B: 1}}, 2)
		wantHas(t, k, 5, []api.Edge{{A: 3, B: 4}}, 2)
		wantSave(t, k, api.OK)
		wantKept(t, d, 5, []api.Edge{{A: 3, B: 4}}, 3)
	}
}

// D1: wherever the power goes off in a Format, and whatever is kept: on a disk without a desk there is none, or one without an edge; on one with a desk that one may be there too. A Format behind it is done.
func TestFormatThroughFailure(t *testing.T) {
	r := rand.New(rand.NewPCG(12, 3))
	d := mustDisk(t, pages)
	n := steps(t, d, func() error { return Format(d, 7) })
	for fail := range n + 2 {
		for _, keep := range choices(r, n) {
			for _, there := range []bool{false, true} {
				d := mustDisk(t, pages)
				if there {
					var k *Desk
					d, k = mustDesk(t, 20, adds(edges(20, 100))...)
					wantSave(t, k, api.OK)
				}
				d.Fail(fail)
				err := Format(d, 7)
				if got := plain.Told(err); (got == api.OK) != (fail >= n) || got != api.OK && got != api.ErrDown {
					t.Fatalf("Format at Fail(%d): %v", fail, err)
				}
				d.Crash(keep)
				switch k, openErr := Open(d); {
				case err == nil || openErr == nil && k.Nodes() == 7:
					wantKept(t, d, 7, nil, 1)
				case openErr == nil && there:
					wantKept(t, d, 20, rising(edges(20, 100)), 2)
				default:
					wantNone(t, d)
				}
				wantFormat(t, d, 8, api.OK)
				wantKept(t, d, 8, nil, 1)
			}
		}
	}
}

// plainDesk has the edges as a set, what was Saved, and, behind an ErrDown, what was being Saved.
type plainDesk struct {
	n                int
	has, saved, may  map[api.Edge]bool
	turn, kept, will int
	down             bool // the desk says ErrDown
	off              bool // the power is off
	fails            int  // what Fail said last; below 0: no step fails
}

// list of a set, rising.
func list(m map[api.Edge]bool) []api.Edge {
	return rising(slices.Collect(maps.Keys(m)))
}

// joined tells plainly, edge by edge, what there is a way to.
func joined(m map[api.Edge]bool, a, b int) bool {
	reached := map[int]bool{a: true}
	for changed := true; changed; {
		changed = false
		for e := range m {
			if reached[e.A] != reached[e.B] {
				reached[e.A], reached[e.B], changed = true, true, true
			}
		}
	}
	return reached[b]
}

// do gives the answers, or the first error, and does all or none.
func (p *plainDesk) do(l []api.Event) ([]bool, api.Errno) {
	if len(l) > maxEvents {
		return nil, api.ErrFull
	}
	var answers []bool
	next := maps.Clone(p.has)
	for _, x := range l {
		e := api.Edge{A: min(x.A, x.B), B: max(x.A, x.B)}
		switch {
		case x.What < 1 || x.What > 3 || e.A < 0 || e.B >= p.n:
			return nil, api.ErrRange
		case x.What == 1 && e.A == e.B:
			return nil, api.ErrShape
		case x.What == 1 && next[e]:
			return nil, api.ErrClash
		case x.What == 1 && len(next) == maxEdges:
			return nil, api.ErrFull
		case x.What == 2 && !next[e]:
			return nil, api.ErrNone
		case x.What == 1:
			next[e] = true
		case x.What == 2:
			delete(next, e)
		default:
			answers = append(answers, joined(next, x.A, x.B))
		}
	}
	p.has = next
	return answers, api.OK
}

// drawnEvents gives events of which most may be done, one behind the other.
func drawnEvents(r *rand.Rand, p *plainDesk) []api.Event {
	there := maps.Clone(p.has)
	var l []api.Event
	for range r.IntN(9) * (1 + r.IntN(6)) {
		a, b := r.IntN(p.n), r.IntN(p.n)
		e := api.Edge{A: min(a, b), B: max(a, b)}
		switch k := r.IntN(200); {
		case k == 0:
			l = append(l, api.Event{What: r.IntN(6) - 1, A: a, B: b})
		case k == 1:
			l = append(l, api.Event{What: 1 + r.IntN(3), A: a + (r.IntN(3)-1)*p.n, B: b})
		case k < 60 || a == b:
			l = append(l, ask(a, b))
		case there[e]:
			delete(there, e)
			l = append(l, drop(a, b))
		case len(there) < maxEdges || k == 60:
			there[e] = true
			l = append(l, add(a, b))
		}
	}
	return l
}

// drawnDo does drawn events to both.
func drawnDo(t *testing.T, r *rand.Rand, k *Desk, p *plainDesk) {
	t.Helper()
	l := drawnEvents(r, p)
	want, wantErr := p.do(l)
	if got, err := k.Do(l); !slices.Equal(got, want) || plain.Told(err) != wantErr {
		t.Fatalf("Do of %v: %v %v, want %v %v", l, got, err, want, wantErr)
	}
}

// drawnSave Saves, and asks that it fails only where a step is to fail.
func drawnSave(t *testing.T, k *Desk, p *plainDesk) {
	t.Helper()
	got := plain.Told(k.Save())
	switch {
	case got == api.OK && !p.down && p.fails != 0:
		p.turn++
		p.saved, p.kept = maps.Clone(p.has), p.turn
		p.fails = -1 // how many steps are left to it is not known
	case got == api.ErrDown && p.down:
	case got == api.ErrDown && p.fails >= 0:
		p.may, p.will, p.down, p.off = maps.Clone(p.has), p.turn+1, true, true
	default:
		t.Fatalf("Save: %v, desk down %v, Fail %d", got, p.down, p.fails)
	}
}

// drawnCrash Crashes, and Opens what is there of what may be there.
func drawnCrash(t *testing.T, r *rand.Rand, d *disk.Disk, p *plainDesk) *Desk {
	t.Helper()
	keep := make([]int, r.IntN(20))
	for i := range keep {
		keep[i] = r.IntN(16) - 1
	}
	d.Crash(keep)
	k := mustOpen(t, d)
	if p.down && k.Turn() == p.will {
		p.saved, p.kept = p.may, p.will
	}
	p.has, p.turn = maps.Clone(p.saved), p.kept
	p.may, p.will, p.down, p.off, p.fails = nil, 0, false, false, -1
	return k
}

// drawnStep does one thing to both.
func drawnStep(t *testing.T, r *rand.Rand, d *disk.Disk, k *Desk, p *plainDesk) *Desk {
	t.Helper()
	switch x := r.IntN(20); {
	case x < 12:
		drawnDo(t, r, k, p)
	case x < 16:
		drawnSave(t, k, p)
		if p.fails < 0 && !p.off {
			d.Fail(-1)
		}
	case x < 18 && !p.off:
		p.fails = r.IntN(25) - 2
		d.Fail(p.fails)
	case x == 19:
		return drawnCrash(t, r, d, p)
	}
	return k
}

// D1, D2: over drawn scripts the desk tells what the plain one has, behind each step.
func TestAgainstPlain(t *testing.T) {
	r := rand.New(rand.NewPCG(12, 4))
	for _, n := range []int{1, 2, 3, 5, 8, 20, 21, 40, maxNodes} {
		for range 8 {
			d, k := mustDesk(t, n)
			p := &plainDesk{n: n, has: map[api.Edge]bool{}, saved: map[api.Edge]bool{}, turn: 1, kept: 1, fails: -1}
			for range 150 {
				k = drawnStep(t, r, d, k, p)
				wantHas(t, k, n, list(p.has), p.turn)
			}
		}
	}
}

// D1, D2 (P2 of all): the same calls give the same answers.
func TestSameAgain(t *testing.T) {
	run := func() string {
		r := rand.New(rand.NewPCG(12, 5))
		d, k := mustDesk(t, 20)
		p := &plainDesk{n: 20, has: map[api.Edge]bool{}, saved: map[api.Edge]bool{}, turn: 1, kept: 1, fails: -1}
		told := ""
		for range 300 {
			k = drawnStep(t, r, d, k, p)
			g := k.Graph()
			told += fmt.Sprint(g.Edges(), g.Tree(), k.Turn())
		}
		return told
	}
	if run() != run() {
		t.Error("the same calls gave other answers")
	}
}
