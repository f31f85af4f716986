package note

import (
	"bytes"
	"fmt"
	"math"
	"math/rand/v2"
	"slices"
	"strings"
	"testing"

	"footbridge/api"
	"footbridge/bridge"
	"footbridge/plain"
)

// all gives all edges of n nodes, rising.
func all(n int) []api.Edge {
	var l []api.Edge
	for a := range n {
		for b := a + 1; b < n; b++ {
			l = append(l, api.Edge{A: a, B: b})
		}
	}
	return l
}

// some gives k edges of n nodes, rising, whichever they are.
func some(r *rand.Rand, n, k int) []api.Edge {
	l := all(n)
	var out []api.Edge
	for _, i := range slices.Sorted(slices.Values(r.Perm(len(l))[:min(k, len(l))])) {
		out = append(out, l[i])
	}
	return out
}

// beyond gives numbers that are none from low to high, some of which would be by their last bits.
func beyond(low, high int) []int {
	return []int{
		low - 1, low - 2, high + 1, high + 2, -high - 1000, high + 1000, 127, 128, 255, 256, 257, 259, -255, -256, -257,
		1<<32 + 1, -1<<32 + 1, 1 << 32, -1 << 32, 1<<62 + 1, math.MinInt, math.MinInt + 1, math.MaxInt, math.MaxInt - 1,
	}
}

// written gives the bytes of edges, plainly.
func written(n int, l []api.Edge) []byte {
	b := []byte{byte(n), byte(len(l))}
	for _, e := range l {
		b = append(b, byte(e.A), byte(e.B))
	}
	return b
}

// isWritten tells plainly whether bytes are those of some edges.
func isWritten(b []byte) bool {
	if len(b) < 2 || b[0] < 1 || b[0] > 60 || b[1] > 200 || len(b)-2 != int(b[1])+int(b[1]) {
		return false
	}
	last := -1
	for i := 2; i < len(b); i += 2 {
		next := int(b[i])*256 + int(b[i+1])
		if b[i] >= b[i+1] || b[i+1] >= b[0] || next <= last {
			return false
		}
		last = next
	}
	return true
}

// wantCoded asks for the bytes of edges that are right, and for the edges of those bytes.
func wantCoded(t *testing.T, n int, l []api.Edge) {
	t.Helper()
	b, err := Encode(n, l)
	if !bytes.Equal(b, written(n, l)) || err != nil {
		t.Fatalf("Encode(%d, %v): %v %v, want %v", n, l, b, err, written(n, l))
	}
	wantDecoded(t, b, n, l)
}

// wantDecoded asks for the edges of bytes that are right.
func wantDecoded(t *testing.T, b []byte, n int, l []api.Edge) {
	t.Helper()
	if nodes, edges, err := Decode(b); nodes != n || !slices.Equal(edges, l) || err != nil {
		t.Fatalf("Decode(%v): %d %v %v, want %d %v", b, nodes, edges, err, n, l)
	}
}

// wantNotCoded asks for the bytes of edges that are wrong: there are none, and the error is that of Check.
func wantNotCoded(t *testing.T, n int, l []api.Edge, want api.Errno) {
	t.Helper()
	if b, err := Encode(n, l); len(b) != 0 || plain.Told(err) != want {
		t.Fatalf("Encode(%d, %v): %v %v, want %v", n, l, b, err, want)
	}
	if _, err := bridge.Check(n, l); plain.Told(err) != want {
		t.Fatalf("Check(%d, %v): %v, want %v", n, l, err, want)
	}
}

// wantNoBytes asks for the edges of bytes that are wrong.
func wantNoBytes(t *testing.T, b []byte) {
	t.Helper()
	if n, l, err := Decode(b); n != 0 || len(l) != 0 || plain.Told(err) != api.ErrSyntax {
		t.Fatalf("Decode(%v): %d %v %v, want ErrSyntax alone", b, n, l, err)
	}
}

// wantAsWritten asks for the edges of any bytes, held against what is told plainly.
func wantAsWritten(t *testing.T, b []byte) {
	t.Helper()
	if !isWritten(b) {
		wantNoBytes(t, b)
		return
	}
	n, l, err := Decode(b)
	if err != nil || !bytes.Equal(written(n, l), b) {
		t.Fatalf("Decode(%v): %d %v %v", b, n, l, err)
	}
	wantCoded(t, n, l)
}

// N1: ordinary edges, the bytes written out.
func TestCoded(t *testing.T) {
	for _, x := range []struct {
		n    int
		l    []api.Edge
		want []byte
	}{
		{3, []api.Edge{{A: 0, B: 2}}, []byte{3, 1, 0, 2}},
		{5, []api.Edge{{A: 0, B: 1}, {A: 0, B: 2}, {A: 1, B: 2}, {A: 2, B: 3}}, []byte{5, 4, 0, 1, 0, 2, 1, 2, 2, 3}},
		{11, []api.Edge{{A: 0, B: 10}, {A: 1, B: 9}}, []byte{11, 2, 0, 10, 1, 9}},
		{60, []api.Edge{{A: 0, B: 1}, {A: 0, B: 59}, {A: 58, B: 59}}, []byte{60, 3, 0, 1, 0, 59, 58, 59}},
		{1, nil, []byte{1, 0}},
		{60, []api.Edge{}, []byte{60, 0}},
	} {
		if b, err := Encode(x.n, x.l); !bytes.Equal(b, x.want) || err != nil {
			t.Errorf("Encode(%d, %v): %v %v, want %v", x.n, x.l, b, err, x.want)
		}
		wantDecoded(t, x.want, x.n, x.l)
	}
}

// N1: no edge, and an edge from 0 to n - 1, at every n that may be.
func TestNodesAtTheEdges(t *testing.T) {
	for n := 1; n <= api.MaxNodes; n++ {
		wantCoded(t, n, nil)
		wantCoded(t, n, []api.Edge{})
		if n > 1 {
			wantCoded(t, n, []api.Edge{{A: 0, B: n - 1}})
			wantCoded(t, n, []api.Edge{{A: n - 2, B: n - 1}})
		}
	}
}

// N1: n beyond on both sides: of Encode ErrRange, ahead of all that may be wrong with the edges; of Decode ErrSyntax.
func TestNodesBeyond(t *testing.T) {
	for _, n := range append(beyond(1, api.MaxNodes), 0, 61) {
		for _, l := range [][]api.Edge{nil, {}, {{A: 0, B: 1}}, all(30), {{A: 0, B: 1}, {A: 0, B: 1}}, {{A: 1, B: 0}}} {
			wantNotCoded(t, n, l, api.ErrRange)
		}
	}
	for n := range 256 {
		if n < 1 || n > api.MaxNodes {
			wantNoBytes(t, []byte{byte(n), 0})
			wantNoBytes(t, []byte{byte(n), 1, 0, 1})
			wantNoBytes(t, written(n, all(21)[:api.MaxEdges]))
		}
	}
}

// N1: any number of edges up to as many as may be, and beyond: of Encode ErrFull, ahead of all that may be wrong with one; of Decode ErrSyntax.
func TestManyEdges(t *testing.T) {
	for _, n := range []int{30, 59, api.MaxNodes} {
		l := all(n)
		for k := range api.MaxEdges + 1 {
			wantCoded(t, n, l[:k])
			wantCoded(t, n, l[len(l)-k:])
		}
		for _, k := range []int{201, 202, 254, 255, 256, 257, len(l)} { // a byte holds 255 at most
			wantNotCoded(t, n, l[:k], api.ErrFull)
			wantNoBytes(t, written(n, l[:k]))
			wrong := slices.Clone(l[:k])
			wrong[0], wrong[1] = api.Edge{A: -1, B: 0}, api.Edge{A: 3, B: 3}
			wantNotCoded(t, n, wrong, api.ErrFull)
		}
	}
}

// N1: an edge that is not 0 <= A < B < n, alone, and among others.
func TestEdgeNodesBeyond(t *testing.T) {
	for _, n := range []int{1, 2, 3, 59, api.MaxNodes} {
		var wrong []api.Edge
		for _, x := range append(beyond(0, n-1), n) {
			wrong = append(wrong, api.Edge{A: 0, B: x}, api.Edge{A: x, B: 0}, api.Edge{A: n - 1, B: x}, api.Edge{A: x, B: n - 1}, api.Edge{A: x, B: x}, api.Edge{A: x - 1, B: x})
		}
		wrong = append(wrong, api.Edge{}, api.Edge{A: n - 1, B: n - 1}, api.Edge{A: n - 1}, api.Edge{A: 1})
		for _, e := range wrong {
			if e.A >= 0 && e.A < e.B && e.B < n {
				continue
			}
			wantNotCoded(t, n, []api.Edge{e}, api.ErrRange)
			if n > 2 {
				wantNotCoded(t, n, []api.Edge{{A: 0, B: 1}, {A: 0, B: 2}, e}, api.ErrRange)
				wantNotCoded(t, n, []api.Edge{{A: 0, B: 1}, e, {A: 0, B: 2}}, api.ErrRange)
			}
			if e.A >= 0 && e.A < 256 && e.B >= 0 && e.B < 256 {
				wantNoBytes(t, []byte{byte(n), 1, byte(e.A), byte(e.B)})
				wantNoBytes(t, []byte{byte(n), 3, 0, 1, 0, 2, byte(e.A), byte(e.B)})
				wantNoBytes(t, []byte{byte(n), 3, 0, 1, byte(e.A), byte(e.B), 0, 2})
			}
		}
	}
}

// N1: any two edges: right, or ErrShape where they do not rise, each once.
func TestNotRising(t *testing.T) {
	few := all(5)
	for i, x := range few {
		for j, y := range few {
			l := []api.Edge{x, y}
			if i < j {
				wantCoded(t, 5, l)
				continue
			}
			wantNotCoded(t, 5, l, api.ErrShape)
			wantNoBytes(t, written(5, l))
		}
	}
	most := all(30)[:api.MaxEdges]
	most[api.MaxEdges-1] = most[api.MaxEdges-2]
	wantNotCoded(t, 30, most, api.ErrShape)
	wantNoBytes(t, written(30, most))
}

// N1: of several wrong edges the first is told; of one edge ErrRange comes ahead of ErrShape.
func TestFirstWrong(t *testing.T) {
	wantNotCoded(t, 5, []api.Edge{{A: 1, B: 3}, {A: 0, B: 2}, {A: 0, B: 9}}, api.ErrShape)
	wantNotCoded(t, 5, []api.Edge{{A: 1, B: 3}, {A: 0, B: 9}, {A: 0, B: 2}}, api.ErrRange)
	wantNotCoded(t, 5, []api.Edge{{A: 1, B: 3}, {A: 1, B: 1}}, api.ErrRange)
}

// N1: bytes that are cut off anywhere, or have some more behind.
func TestCutOff(t *testing.T) {
	r := rand.New(rand.NewPCG(1, 9))
	for _, n := range []int{1, 2, 10, 21, api.MaxNodes} {
		for _, k := range []int{0, 1, 2, 7, 100, 199, api.MaxEdges} {
			b := written(n, some(r, n, k))
			for i := range b {
				wantNoBytes(t, b[:i])
			}
			for x := range 256 {
				wantNoBytes(t, append(slices.Clone(b), byte(x)))
				wantNoBytes(t, append([]byte{byte(x)}, b...))
			}
			wantNoBytes(t, append(slices.Clone(b), byte(n-2), byte(n-1)))
			wantNoBytes(t, append(slices.Clone(b), 0, 0))
			wantNoBytes(t, append(slices.Clone(b), b...))
		}
	}
	wantNoBytes(t, nil)
	wantNoBytes(t, []byte{})
	wantNoBytes(t, make([]byte, 100000))
}

// N1: a count that is not that of the edges behind it, also where it would be by its last bits.
func TestCount(t *testing.T) {
	for _, k := range []int{0, 1, 2, 3, 100, 199, api.MaxEdges} {
		for x := range 256 {
			b := written(30, all(30)[:k])
			b[1] = byte(x)
			if x == k {
				wantDecoded(t, b, 30, all(30)[:k])
			} else {
				wantNoBytes(t, b)
			}
		}
	}
	wantNoBytes(t, written(60, all(60)[:256]))
	wantNoBytes(t, written(60, all(60)[:257]))
	wantNoBytes(t, append([]byte{30, 129}, written(30, all(30)[:1])[2:]...)) // twice 129 is 2 in a byte
}

// N1: all bytes, where there are few.
func TestFewBytes(t *testing.T) {
	for x := range 256 {
		wantNoBytes(t, []byte{byte(x)})
		for y := range 256 {
			wantAsWritten(t, []byte{byte(x), byte(y)})
			wantAsWritten(t, []byte{byte(x), 1, 0, byte(y)})
			wantAsWritten(t, []byte{60, 1, byte(x), byte(y)})
			wantAsWritten(t, []byte{60, 2, 3, 7, byte(x), byte(y)})
			wantAsWritten(t, []byte{60, 2, byte(x), byte(y), 56, 58})
		}
	}
}

// N1: all bytes of small numbers: those of the edges of every small graph, and no others, are taken.
func TestSmallBytes(t *testing.T) {
	const most = 4
	right := make(map[string]bool)
	for n := 1; n <= most; n++ {
		edges := all(n)
		for bits := range 1 << len(edges) {
			var l []api.Edge
			for i, e := range edges {
				if bits>>i&1 == 1 {
					l = append(l, e)
				}
			}
			wantCoded(t, n, l)
			right[string(written(n, l))] = true
		}
	}
	var grow func(b []byte)
	grow = func(b []byte) {
		if _, _, err := Decode(b); (err == nil) != right[string(b)] {
			t.Fatalf("Decode(%v): %v", b, err)
		}
		for x := byte(0); len(b) < 8 && x <= most; x++ {
			grow(append(b, x))
		}
	}
	grow(make([]byte, 0, 8))
}

// N1: one byte of what is right is another.
func TestOneByteChanged(t *testing.T) {
	for seed := range uint64(20) {
		r := rand.New(rand.NewPCG(seed, 10))
		n := 1 + r.IntN(api.MaxNodes)
		b := written(n, some(r, n, r.IntN(30)))
		for i, was := range b {
			for x := range 256 {
				b[i] = byte(x)
				wantAsWritten(t, b)
			}
			b[i] = was
		}
	}
}

// N1: edges of any kind, few and many.
func TestAnyEdges(t *testing.T) {
	for seed := range uint64(500) {
		r := rand.New(rand.NewPCG(seed, 11))
		n := 1 + r.IntN(api.MaxNodes)
		wantCoded(t, n, some(r, n, r.IntN(api.MaxEdges+1)))
	}
}

// P2: what is handed in stays as it is, what lies behind its length is not read, and what comes out is the caller's.
func TestListsAreTheCallers(t *testing.T) {
	edges := []api.Edge{{A: 0, B: 1}, {A: 1, B: 2}, {A: 0, B: 0}, {A: 9, B: 9}}
	coded := []byte{3, 2, 0, 1, 1, 2, 7, 7}
	edgesWere, codedWas := slices.Clone(edges), slices.Clone(coded)
	for range 2 { // what is written into the answers is not there the second time
		b, err := Encode(3, edges[:2])
		if !bytes.Equal(b, coded[:6]) || err != nil {
			t.Errorf("Encode: %v %v", b, err)
		}
		n, l, err := Decode(coded[:6])
		if n != 3 || !slices.Equal(l, edges[:2]) || err != nil {
			t.Errorf("Decode: %d %v %v", n, l, err)
		}
		wantNoBytes(t, coded[:5])
		for i := range b {
			b[i] = 99
		}
		for i := range l {
			l[i] = api.Edge{A: -7, B: -7}
		}
		_, _ = append(b, 99), append(l, api.Edge{A: -7, B: -7})
	}
	_, l, _ := Decode(coded[:6])
	b, _ := Encode(3, edges[:2])
	coded[2], edges[0] = 1, api.Edge{A: 1, B: 1} // what came out does not change with what went in
	if !slices.Equal(l, edgesWere[:2]) || !bytes.Equal(b, codedWas[:6]) {
		t.Errorf("kept what was handed in: %v %v", l, b)
	}
	coded[2], edges[0] = 0, edgesWere[0]
	if !slices.Equal(edges, edgesWere) || !bytes.Equal(coded, codedWas) {
		t.Errorf("wrote into what was handed in: %v %v", edges, coded)
	}
}

// wantText asks for the text of an event that is right, and for the event of that text.
func wantText(t *testing.T, e api.Event, want string) {
	t.Helper()
	if got, err := Text(e); got != want || err != nil {
		t.Fatalf("Text(%v): %q %v, want %q", e, got, err, want)
	}
	if got, err := Parse(want); got != e || err != nil {
		t.Fatalf("Parse(%q): %v %v, want %v", want, got, err, e)
	}
}

// wantNoText asks for the text of an event that is wrong.
func wantNoText(t *testing.T, e api.Event) {
	t.Helper()
	if got, err := Text(e); got != "" || plain.Told(err) != api.ErrRange {
		t.Fatalf("Text(%v): %q %v, want ErrRange alone", e, got, err)
	}
}

// wantNoEvent asks for the event of a text that is wrong.
func wantNoEvent(t *testing.T, text string) {
	t.Helper()
	if got, err := Parse(text); got != (api.Event{}) || plain.Told(err) != api.ErrSyntax {
		t.Fatalf("Parse(%q): %v %v, want ErrSyntax alone", text, got, err)
	}
}

// texts gives the events of all texts that are right, written plainly.
func texts() map[string]api.Event {
	all := make(map[string]api.Event)
	for a := range api.MaxNodes {
		for b := range api.MaxNodes {
			all[fmt.Sprintf("+%d %d", a, b)] = api.Event{What: api.Add, A: a, B: b}
			all[fmt.Sprintf("-%d %d", a, b)] = api.Event{What: api.Drop, A: a, B: b}
			all[fmt.Sprintf("?%d %d", a, b)] = api.Event{What: api.Ask, A: a, B: b}
		}
	}
	return all
}

// N2: ordinary events, the texts written out; the nodes stand as they are named, and may be one.
func TestText(t *testing.T) {
	wantText(t, api.Event{What: api.Add, A: 0, B: 1}, "+0 1")
	wantText(t, api.Event{What: api.Drop, A: 7, B: 10}, "-7 10")
	wantText(t, api.Event{What: api.Ask, A: 0, B: 59}, "?0 59")
	wantText(t, api.Event{What: api.Add, A: 10, B: 9}, "+10 9")
	wantText(t, api.Event{What: api.Drop, A: 59, B: 59}, "-59 59")
	wantText(t, api.Event{What: api.Ask, A: 0, B: 0}, "?0 0")
}

// N2: every event that may be.
func TestEveryText(t *testing.T) {
	for text, e := range texts() {
		wantText(t, e, text)
	}
}

// N2: What is none, whatever the nodes are.
func TestWhatBeyond(t *testing.T) {
	for _, what := range append(beyond(api.Add, api.Ask), 0, 4, 5, '+', '-', '?') {
		for _, node := range []int{0, 9, 10, 59, 60, -1} {
			wantNoText(t, api.Event{What: what, A: 0, B: node})
			wantNoText(t, api.Event{What: what, A: node, B: 1})
		}
	}
}

// N2: A, or B, or both are no nodes.
func TestEventNodesBeyond(t *testing.T) {
	for _, what := range []int{api.Add, api.Drop, api.Ask} {
		for _, x := range append(beyond(0, api.MaxNodes-1), 60, 61, 99, 100) {
			for _, node := range []int{0, 9, 10, 59, 60, -1, x} {
				wantNoText(t, api.Event{What: what, A: x, B: node})
				wantNoText(t, api.Event{What: what, A: node, B: x})
			}
		}
	}
}

// N2: texts that are none.
func TestNoTexts(t *testing.T) {
	right := texts()
	for _, text := range []string{
		"", " ", "  ", "0", "1 2", " 1 2", "1+2", "01 2", // no mark
		"+", "-", "?", "+ ", "- ", "? ", "+  ", "++", "+-", "??", // a mark alone
		"*1 2", "=1 2", "/1 2", "!1 2", "a1 2", "A1 2", ",1 2", "\x001 2", "\xff1 2", "¿1 2", "＋1 2", // another mark
		"++1 2", "+-1 2", "--1 2", "-+1 2", "?+1 2", "?-1 2", "+?1 2", "+1 +2", "+1 -2", "?1 +2", "?1 -2", "+-0 2", "+0 -0", "+1 ?2", // a sign ahead of a number
		"+1", "+12", "-0", "?59", "+1 ", "+ 1", "? 1 ", // one number
		"+1 2 3", "+1 2 ", "+1 2  ", "+1 2 +3 4", "+1 2,+3 4", "+1 2,", "?1 2 3 4", // three numbers, and more
		"+1  2", "+1   2", "+1,2", "+1-2", "+1\t2", "+1\n2", "+1\r2", "+1\x002", "+1\u00a02", "+1\u20092", "+1_2", // no blank, two blanks, no such blank
		" +1 2", "\t+1 2", "\n+1 2", "\ufeff+1 2", "+ 1 2", "- 1 2", "? 1 2", "+\t1 2", "+1 2\n", "+1 2\r", "+1 2\t", "+1 2\x00", // a blank ahead, within, or behind
		"+00 1", "+0 00", "+07 1", "+1 07", "+000 000", "+010 1", "+1 059", "-00 0", "?0 000000000000000000000000001", // a 0 ahead of another digit
		"+60 1", "+1 60", "-60 60", "?0 60", "+61 0", "+0 99", "+100 0", "+0 590", "+256 257", "+0 1000000", // no nodes
		"+4294967297 1", "+1 4294967296", "+9223372036854775807 1", "+1 9223372036854775808", "+18446744073709551617 2", "+0 18446744073709551616", "+1 99999999999999999999999999", "-1 -9223372036854775808", // no int
		"+a b", "+1 b", "+a 2", "+1a 2", "+1 2a", "+x1 2", "add 1 2", "+0x1 2", "+1 0x2", "+0b1 1", "+0o7 1", "+1e1 2", "+1.0 2", "+1 2.", "+1_0 2", "+inf 2", "+1 NaN", // letters and other signs
		"+١ ٢", "+1 ２", "+１ 2", "+1 ²", "+½ 1", // digits of another kind
		"+1 2\xff", "+\xff 2", "+1\x802", "+1 \xc3", "\xc3\x28", "\xff\xfe", "+1 \xed\xa0\x80", // no letters at all
	} {
		if e, there := right[text]; there {
			t.Fatalf("%q is right: %v", text, e)
		}
		wantNoEvent(t, text)
	}
	for _, long := range []string{"+", " ", "0", "1", "+1 ", "1 2 ", "\x00", "\xff"} {
		wantNoEvent(t, strings.Repeat(long, 50000))
		wantNoEvent(t, "+1 "+strings.Repeat(long, 50000))
		wantNoEvent(t, "+1 2"+strings.Repeat(long, 50000))
	}
}

// N2: all short texts of these letters.
func TestShortTexts(t *testing.T) {
	all := texts()
	var grow func(text string)
	grow = func(text string) {
		wantAsTold(t, all, text)
		for i := 0; len(text) < 6 && i < len("+-? 0569"); i++ {
			grow(text + "+-? 0569"[i:i+1])
		}
	}
	grow("")
	for x := range 256 {
		for y := range 256 {
			wantAsTold(t, all, string([]byte{byte(x), byte(y)}))
			wantAsTold(t, all, string([]byte{byte(x), '1', ' ', byte(y)}))
			wantAsTold(t, all, string([]byte{'+', byte(x), ' ', byte(y)}))
			wantAsTold(t, all, string([]byte{'-', '1', byte(x), byte(y)}))
			wantAsTold(t, all, string([]byte{'?', '4', ' ', byte(x), byte(y)}))
		}
	}
}

// N2: of some texts that are right one byte is another, is not there, or is there beside the others.
func TestOneByteOff(t *testing.T) {
	all := texts()
	for _, text := range []string{"+0 0", "-0 59", "?59 0", "+9 10", "-10 9", "?59 59", "+5 6", "-12 34", "?7 40"} {
		for i := range len(text) + 1 {
			for x := range 256 {
				wantAsTold(t, all, text[:i]+string([]byte{byte(x)})+text[i:])
				if i < len(text) {
					wantAsTold(t, all, text[:i]+string([]byte{byte(x)})+text[i+1:])
				}
			}
			if i < len(text) {
				wantAsTold(t, all, text[:i]+text[i+1:])
			}
			wantAsTold(t, all, text[:i])
			wantAsTold(t, all, text[i:])
		}
	}
}

// wantAsTold asks for the event of any text, held against all texts that are right.
func wantAsTold(t *testing.T, all map[string]api.Event, text string) {
	t.Helper()
	if e, right := all[text]; right {
		wantText(t, e, text)
	} else {
		wantNoEvent(t, text)
	}
}
