package disk

import (
	"bytes"
	"fmt"
	"math"
	"math/rand/v2"
	"slices"
	"testing"

	"footbridge/api"
	"footbridge/plain"
)

func mustNew(t *testing.T, pages int) *Disk {
	t.Helper()
	d, err := New(pages)
	if err != nil || d == nil {
		t.Fatalf("New(%d): %v %v", pages, d, err)
	}
	return d
}

// wantErr asks for the error of a call, or that there is none.
func wantErr(t *testing.T, name string, err error, want api.Errno) {
	t.Helper()
	if got := plain.Told(err); got != want {
		t.Fatalf("%s: error %v, want %v", name, err, want)
	}
}

func wantWrite(t *testing.T, d *Disk, at int, b []byte, want api.Errno) {
	t.Helper()
	wantErr(t, fmt.Sprintf("Write(%d, %d bytes)", at, len(b)), d.Write(at, b), want)
}

// wantWrites writes to one page after another, from 0 on, a page of that one byte each.
func wantWrites(t *testing.T, d *Disk, l ...byte) {
	t.Helper()
	for at, x := range l {
		wantWrite(t, d, at, []byte{x}, api.OK)
	}
}

func wantSync(t *testing.T, d *Disk, want api.Errno) {
	t.Helper()
	wantErr(t, "Sync", d.Sync(), want)
}

// wantPage asks for a page: these bytes, and 0 behind them.
func wantPage(t *testing.T, d *Disk, at int, b []byte) {
	t.Helper()
	want := append(slices.Clone(b), make([]byte, api.Page-len(b))...)
	if got, err := d.Read(at); !bytes.Equal(got, want) || err != nil {
		t.Fatalf("Read(%d): %v %v, want %v", at, got, err, want)
	}
}

// wantFirst asks for the pages from 0 on: each is one byte, and 0 behind it.
func wantFirst(t *testing.T, d *Disk, l ...byte) {
	t.Helper()
	for at, x := range l {
		wantPage(t, d, at, []byte{x})
	}
}

// wantNoPage asks that there is no such page, be the power on or off.
func wantNoPage(t *testing.T, d *Disk, at int) {
	t.Helper()
	if b, err := d.Read(at); len(b) != 0 || plain.Told(err) != api.ErrRange {
		t.Fatalf("Read(%d): %v %v, want ErrRange alone", at, b, err)
	}
	wantWrite(t, d, at, nil, api.ErrRange)
	wantWrite(t, d, at, some(api.Page+1, 1), api.ErrRange)
}

// some gives n bytes, none of them 0, from first on.
func some(n int, first byte) []byte {
	b := make([]byte, n)
	for i := range b {
		b[i] = max(1, first+byte(i))
	}
	return b
}

// off gives numbers of no page of so many.
func off(pages int) []int {
	return []int{
		-1, -2, pages, pages + 1, -pages, -pages - 1, 255, 256, -255, -256,
		1 << 32, -1 << 32, 1<<32 + 1, 1 << 62, math.MinInt, math.MinInt + 1, math.MaxInt, math.MaxInt - 1,
	}
}

// P1: from 1 to MaxPages pages, of 0 at first.
func TestNew(t *testing.T) {
	for pages := 1; pages <= api.MaxPages; pages++ {
		d := mustNew(t, pages)
		if d.Pages() != pages {
			t.Fatalf("Pages of %d: %d", pages, d.Pages())
		}
		for at := range pages {
			wantPage(t, d, at, nil)
		}
		for _, at := range off(pages) {
			wantNoPage(t, d, at)
		}
	}
}

// P1: no other number of pages.
func TestNewWrong(t *testing.T) {
	for _, pages := range []int{
		0, -1, -2, -api.MaxPages, api.MaxPages + 1, api.MaxPages + 2, 255, 256, 257, -255,
		1 << 32, 1<<32 + 1, -1<<32 + 1, 1 << 62, math.MinInt, math.MinInt + 1, math.MaxInt,
	} {
		if d, err := New(pages); d != nil || plain.Told(err) != api.ErrRange {
			t.Errorf("New(%d): %v %v, want ErrRange alone", pages, d, err)
		}
	}
}

// P1: a Write of any length up to Page is read at once, 0 behind it, and no other page is changed.
func TestWrite(t *testing.T) {
	for _, pages := range []int{1, 2, api.MaxPages} {
		for n := range api.Page + 1 {
			d := mustNew(t, pages)
			for _, at := range []int{0, pages - 1} {
				wantWrite(t, d, at, some(n, byte(at)), api.OK)
				wantPage(t, d, at, some(n, byte(at)))
			}
			wantPage(t, d, 0, some(n, 0))
			for at := 1; at < pages-1; at++ {
				wantPage(t, d, at, nil)
			}
		}
	}
}

// P1: each page has bytes of its own.
func TestWriteAll(t *testing.T) {
	d := mustNew(t, api.MaxPages)
	for at := range api.MaxPages {
		wantWrite(t, d, at, some(at%api.Page+1, byte(at)), api.OK)
	}
	for round := range 2 {
		for at := range api.MaxPages {
			wantPage(t, d, at, some(at%api.Page+1, byte(at)))
		}
		if round == 0 {
			wantSync(t, d, api.OK)
		}
	}
}

// P1: behind the bytes of a Write stands 0, whatever was there, kept or not.
func TestWriteShorter(t *testing.T) {
	for n := range api.Page + 1 {
		for _, kept := range []bool{false, true} {
			d := mustNew(t, 2)
			wantWrite(t, d, 1, some(api.Page, 100), api.OK)
			if kept {
				wantSync(t, d, api.OK)
			}
			wantWrite(t, d, 1, some(n, 5), api.OK)
			wantPage(t, d, 1, some(n, 5))
			wantSync(t, d, api.OK)
			wantPage(t, d, 1, some(n, 5))
			d.Crash(nil)
			wantPage(t, d, 1, some(n, 5))
			wantPage(t, d, 0, nil)
		}
	}
}

// P1: bytes of 0 that are told stand as any others, and nil is no byte.
func TestWriteZero(t *testing.T) {
	d := mustNew(t, 1)
	wantWrite(t, d, 0, []byte{0, 7, 0, 255}, api.OK)
	wantPage(t, d, 0, []byte{0, 7, 0, 255})
	wantWrite(t, d, 0, nil, api.OK)
	wantPage(t, d, 0, nil)
	wantWrite(t, d, 0, some(api.Page, 255), api.OK)
	wantWrite(t, d, 0, []byte{}, api.OK)
	wantPage(t, d, 0, nil)
}

// P1: more than Page bytes are too many, and change nothing; that there is no such page comes ahead of it.
func TestWriteFull(t *testing.T) {
	d := mustNew(t, 3)
	wantWrites(t, d, 1, 2, 3)
	for _, n := range []int{api.Page + 1, api.Page + 2, 2 * api.Page, 255, 256, 257, 256 + api.Page, 1 << 16, 1<<16 + 1} {
		for at := range 3 {
			wantWrite(t, d, at, some(n, 9), api.ErrFull)
			wantWrite(t, d, at, make([]byte, n), api.ErrFull)
		}
		for _, at := range off(3) {
			wantWrite(t, d, at, some(n, 9), api.ErrRange)
		}
		wantFirst(t, d, 1, 2, 3)
	}
}

// P1: without power ErrRange comes ahead of ErrFull, and ErrFull ahead of ErrDown; Read and Pages go on.
func TestDown(t *testing.T) {
	d := mustNew(t, 2)
	wantWrites(t, d, 1)
	wantSync(t, d, api.OK)
	wantWrite(t, d, 1, some(api.Page, 2), api.OK)
	d.Fail(0)
	wantWrite(t, d, 0, []byte{9}, api.ErrDown)
	for range 2 {
		for at := range 2 {
			wantWrite(t, d, at, some(api.Page+1, 1), api.ErrFull)
			wantWrite(t, d, at, some(api.Page, 1), api.ErrDown)
			wantWrite(t, d, at, nil, api.ErrDown)
		}
		for _, at := range off(2) {
			wantNoPage(t, d, at)
		}
		wantPage(t, d, 0, []byte{1})
		wantPage(t, d, 1, some(api.Page, 2))
		wantSync(t, d, api.ErrDown)
		if d.Pages() != 2 {
			t.Fatalf("Pages without power: %d", d.Pages())
		}
	}
}

// P1 (P2 of all): what is handed to Write is not kept, nor written into, nor read behind its length.
func TestWriteKeepsNothing(t *testing.T) {
	for n := range api.Page + 1 {
		d := mustNew(t, 1)
		all := some(api.Page+8, 50)
		b := slices.Clone(all)
		wantWrite(t, d, 0, b[:n], api.OK)
		if !bytes.Equal(b, all) {
			t.Fatalf("Write of %d bytes wrote into them: %v", n, b)
		}
		clear(b)
		wantPage(t, d, 0, all[:n])
		d.Crash([]int{0})
		wantPage(t, d, 0, all[:n])
		if !bytes.Equal(b, make([]byte, len(b))) {
			t.Fatalf("what was handed in was written into behind the call: %v", b)
		}
	}
}

// P1 (P2 of all): what Read gives is the caller's, and no two of it share memory, in their length or behind it.
func TestReadGivesFresh(t *testing.T) {
	d := mustNew(t, 2)
	wantWrite(t, d, 0, some(api.Page, 1), api.OK)
	for range 3 {
		for at := range 2 {
			first, _ := d.Read(at)
			second, _ := d.Read(at)
			was := slices.Clone(second)
			for i := range first {
				first[i] = 200
			}
			for i := range first[len(first):cap(first)] {
				first[:cap(first)][len(first)+i] = 201
			}
			if !bytes.Equal(second, was) {
				t.Fatalf("two Reads of %d share memory", at)
			}
		}
		wantPage(t, d, 0, some(api.Page, 1))
		wantPage(t, d, 1, nil)
		wantSync(t, d, api.OK)
	}
	d.Crash(nil)
	wantPage(t, d, 0, some(api.Page, 1))
	wantPage(t, d, 1, nil)
}

// P1 (P2 of all): what a Read gave stays as it was, whatever is done behind it.
func TestReadStays(t *testing.T) {
	d := mustNew(t, 1)
	wantWrites(t, d, 1)
	wantSync(t, d, api.OK)
	wantWrites(t, d, 2)
	b, _ := d.Read(0)
	wantWrites(t, d, 3)
	d.Crash(nil)
	if b[0] != 2 {
		t.Errorf("what was read is %d now, want 2", b[0])
	}
}

// P2 (P2 of all): what is handed to Crash is neither written into nor kept.
func TestCrashKeepsNothing(t *testing.T) {
	d := mustNew(t, 3)
	wantWrites(t, d, 1, 2, 3)
	all := []int{2, -1, 0, 2, 7, 1, 1}
	keep := slices.Clone(all)
	d.Crash(keep[:4])
	if !slices.Equal(keep, all) {
		t.Fatalf("Crash wrote into what was handed in: %v", keep)
	}
	wantFirst(t, d, 1, 0, 3)
	wantWrites(t, d, 4, 5, 6)
	d.Crash(nil)
	wantFirst(t, d, 1, 0, 3)
}

// P1 (P2 of all): no two disks have anything in common.
func TestTwoDisks(t *testing.T) {
	a, b := mustNew(t, 2), mustNew(t, 2)
	wantWrites(t, a, 1, 2)
	b.Fail(0)
	wantSync(t, b, api.ErrDown)
	wantSync(t, a, api.OK)
	wantFirst(t, b, 0, 0)
	b.Crash([]int{0, 1})
	wantFirst(t, b, 0, 0)
	wantFirst(t, a, 1, 2)
}

// P2: just the n-th step and all behind it are not done, whichever steps they are.
func TestFail(t *testing.T) {
	for n := range 12 {
		for kinds := range 4 {
			d := mustNew(t, 2)
			wantWrites(t, d, 1)
			wantSync(t, d, api.OK)
			d.Fail(n)
			last := byte(1)
			for i := range 15 {
				want := api.OK
				if i >= n {
					want = api.ErrDown
				}
				if kinds>>(i%2)&1 == 1 {
					wantSync(t, d, want)
					continue
				}
				wantWrite(t, d, 0, []byte{byte(i + 2)}, want)
				if want == api.OK {
					last = byte(i + 2)
				}
				wantFirst(t, d, last, 0)
			}
		}
	}
}

// P2: what says ErrRange or ErrFull is no step, nor are Read and Pages.
func TestNoStep(t *testing.T) {
	d := mustNew(t, 2)
	d.Fail(1)
	for round := range 3 {
		for _, at := range off(2) {
			wantNoPage(t, d, at)
		}
		wantWrite(t, d, 0, some(api.Page+1, 1), api.ErrFull)
		wantWrite(t, d, 1, some(500, 1), api.ErrFull)
		for at := range 2 {
			if _, err := d.Read(at); err != nil || d.Pages() != 2 {
				t.Fatalf("Read(%d): %v", at, err)
			}
		}
		want := api.OK
		if round > 0 {
			want = api.ErrDown
		}
		wantWrite(t, d, 1, nil, want)
	}
}

// P2: a Write and a Sync that are not done change nothing: the Write is not there, and has no number; the Sync keeps nothing.
func TestFailedChangesNothing(t *testing.T) {
	d := mustNew(t, 3)
	wantWrites(t, d, 1)
	d.Fail(0)
	wantSync(t, d, api.ErrDown)
	wantFirst(t, d, 1, 0, 0)
	d.Crash(nil)
	wantFirst(t, d, 0, 0, 0)
	wantWrites(t, d, 1, 2)
	d.Fail(0)
	wantWrite(t, d, 2, []byte{3}, api.ErrDown)
	wantWrite(t, d, 0, []byte{4}, api.ErrDown)
	wantSync(t, d, api.ErrDown)
	wantFirst(t, d, 1, 2, 0)
	d.Crash([]int{1, 2, 3, 4})
	wantFirst(t, d, 0, 2, 0)
	wantSync(t, d, api.OK)
	wantFirst(t, d, 0, 2, 0)
}

// P2: below 0 no step fails.
func TestFailNever(t *testing.T) {
	for _, n := range []int{-1, -2, -256, -1 << 32, math.MinInt, math.MinInt + 1} {
		d := mustNew(t, 1)
		d.Fail(2)
		wantWrites(t, d, 1)
		d.Fail(n)
		for i := range 300 {
			wantWrites(t, d, byte(i))
			wantSync(t, d, api.OK)
		}
	}
}

// P2: far steps are far, and no Fail stands ahead at first.
func TestFailFar(t *testing.T) {
	for _, n := range []int{600, 1 << 32, 1<<32 + 1, 1 << 62, math.MaxInt} {
		d := mustNew(t, 1)
		d.Fail(n)
		for range 300 {
			wantWrites(t, d, 1)
			wantSync(t, d, api.OK)
		}
	}
	d := mustNew(t, 1)
	for range 1000 {
		wantWrites(t, d, 1)
	}
	wantSync(t, d, api.OK)
}

// P2: a Fail takes the place of the one ahead, nearer or farther; steps are counted from it on.
func TestFailAgain(t *testing.T) {
	for first := -1; first < 6; first++ {
		for done := 0; done < 6 && (first < 0 || done <= first); done++ {
			for second := -1; second < 6; second++ {
				d := mustNew(t, 1)
				d.Fail(first)
				for range done {
					wantSync(t, d, api.OK)
				}
				d.Fail(second)
				for i := range 8 {
					want := api.OK
					if second >= 0 && i >= second {
						want = api.ErrDown
					}
					wantSync(t, d, want)
				}
			}
		}
	}
}

// P2: where the power is off, it stays off, whatever Fail says; a Crash alone turns it on, and forgets each Fail.
func TestFailWhileDown(t *testing.T) {
	for _, n := range []int{-1, -5, 0, 1, 2, math.MaxInt, math.MinInt} {
		d := mustNew(t, 1)
		wantWrites(t, d, 1)
		d.Fail(0)
		wantSync(t, d, api.ErrDown)
		d.Fail(n)
		for range 5 {
			wantWrite(t, d, 0, []byte{2}, api.ErrDown)
			wantSync(t, d, api.ErrDown)
		}
		wantFirst(t, d, 1)
		d.Crash(nil)
		for range 5 {
			wantWrites(t, d, 3)
			wantSync(t, d, api.OK)
		}
	}
}

// P2: what Fail said is forgotten at a Crash, also where its step is not there yet.
func TestCrashForgetsFail(t *testing.T) {
	for n := range 5 {
		for done := range n + 1 {
			d := mustNew(t, 1)
			d.Fail(n)
			for range done {
				wantSync(t, d, api.OK)
			}
			d.Crash(nil)
			for range 10 {
				wantSync(t, d, api.OK)
				wantWrites(t, d, 1)
			}
		}
	}
}

// P2: without a Sync no Write stands but those whose numbers are told; of a page the last of these is there, else what was kept. All scripts of five Writes to two pages, and all choices.
func TestCrashChooses(t *testing.T) {
	const writes = 5
	for script := range 1 << writes {
		for choice := range 1 << writes {
			for _, order := range []int{1, -1} {
				d := mustNew(t, 2)
				wantWrites(t, d, 101, 102)
				wantSync(t, d, api.OK)
				want := []byte{101, 102}
				var keep []int
				for i := range writes {
					at := script >> i & 1
					wantWrite(t, d, at, []byte{byte(i + 1)}, api.OK)
					if choice>>i&1 == 1 {
						want[at] = byte(i + 1)
						keep = append(keep, i)
					}
				}
				if order < 0 {
					slices.Reverse(keep)
				}
				d.Crash(keep)
				wantFirst(t, d, want...)
				d.Crash(keep)
				wantFirst(t, d, want...)
			}
		}
	}
}

// P2: a number told twice is as told once; one that no Write has is as not told.
func TestCrashNumbers(t *testing.T) {
	for _, c := range []struct {
		keep []int
		want []byte
	}{
		{nil, []byte{0, 0, 0}},
		{[]int{}, []byte{0, 0, 0}},
		{[]int{0}, []byte{1, 0, 0}},
		{[]int{2}, []byte{0, 0, 3}},
		{[]int{1, 1, 1}, []byte{0, 2, 0}},
		{[]int{0, 1, 0, 1}, []byte{1, 2, 0}},
		{[]int{2, 1, 0}, []byte{1, 2, 3}},
		{[]int{3}, []byte{0, 0, 0}},
		{[]int{-1}, []byte{0, 0, 0}},
		{[]int{-1, 0, 3, 2, -3, -2}, []byte{1, 0, 3}},
		{[]int{math.MinInt, math.MaxInt, 1 << 32, 1<<32 + 1, -1 << 32, 256, 257, 258}, []byte{0, 0, 0}},
		{[]int{math.MaxInt, 1, math.MinInt}, []byte{0, 2, 0}},
		{make([]int, 1000), []byte{1, 0, 0}},
	} {
		d := mustNew(t, 3)
		wantWrites(t, d, 1, 2, 3)
		d.Crash(c.keep)
		wantFirst(t, d, c.want...)
	}
}

// P2: numbers begin at 0 behind each Sync that was done, not behind one that was not, and behind each Crash; a Write that was not done has none.
func TestCrashNumbersBegin(t *testing.T) {
	d := mustNew(t, 4)
	wantWrites(t, d, 1, 2)
	wantSync(t, d, api.OK)
	wantWrite(t, d, 2, []byte{3}, api.OK)
	wantWrite(t, d, 7, []byte{9}, api.ErrRange)
	wantWrite(t, d, 3, make([]byte, 99), api.ErrFull)
	wantWrite(t, d, 3, []byte{4}, api.OK)
	d.Fail(0)
	wantSync(t, d, api.ErrDown)
	wantWrite(t, d, 0, []byte{9}, api.ErrDown)
	d.Crash([]int{1, 2})
	wantFirst(t, d, 1, 2, 0, 4)
	wantWrites(t, d, 5, 6)
	d.Crash([]int{0})
	wantFirst(t, d, 5, 2, 0, 4)
	wantWrites(t, d, 7, 8)
	d.Crash([]int{2, 3, 1})
	wantFirst(t, d, 5, 8, 0, 4)
}

// P2: behind a Crash all is kept: a second one takes nothing away, whatever it is told.
func TestCrashTwice(t *testing.T) {
	d := mustNew(t, 3)
	d.Crash(nil)
	d.Crash([]int{0, 1, -1})
	wantFirst(t, d, 0, 0, 0)
	wantWrites(t, d, 1, 2, 3)
	d.Crash([]int{0, 2})
	for _, keep := range [][]int{nil, {1}, {0}, {0, 1, 2}} {
		d.Crash(keep)
		wantFirst(t, d, 1, 0, 3)
	}
	wantWrites(t, d, 4)
	d.Crash(nil)
	wantFirst(t, d, 1, 0, 3)
	wantSync(t, d, api.OK)
	d.Crash([]int{0, 1, 2})
	wantFirst(t, d, 1, 0, 3)
}

// P2: many Writes have numbers too.
func TestCrashMany(t *testing.T) {
	d := mustNew(t, api.MaxPages)
	var keep []int
	const writes = 50 * api.MaxPages
	for i := range writes {
		wantWrite(t, d, i%api.MaxPages, []byte{byte(i / api.MaxPages), byte(i % api.MaxPages), 1}, api.OK)
		if i/api.MaxPages == i%api.MaxPages%50 {
			keep = append(keep, i)
		}
	}
	slices.Reverse(keep)
	d.Crash(keep)
	for at := range api.MaxPages {
		wantPage(t, d, at, []byte{byte(at % 50), byte(at), 1})
	}
}

// plainDisk keeps all that was ever written, and finds a page by looking for its last Write that stands.
type plainDisk struct {
	pages int
	log   []plainWrite
	kept  int // how many of the log are kept
	fails int // the number of the step that fails, of all that were asked for; -1: none
	steps int
	off   bool
}

type plainWrite struct {
	at   int
	text string
}

func (p *plainDisk) step() api.Errno {
	p.off = p.off || p.steps == p.fails
	p.steps++
	if p.off {
		return api.ErrDown
	}
	return api.OK
}

func (p *plainDisk) write(at int, text string) api.Errno {
	switch {
	case at < 0 || at >= p.pages:
		return api.ErrRange
	case len(text) > 32:
		return api.ErrFull
	}
	if e := p.step(); e != api.OK {
		return e
	}
	p.log = append(p.log, plainWrite{at, text})
	return api.OK
}

func (p *plainDisk) sync() api.Errno {
	e := p.step()
	if e == api.OK {
		p.kept = len(p.log)
	}
	return e
}

func (p *plainDisk) fail(n int) {
	p.fails = -1
	if n >= 0 {
		p.fails = p.steps + n
	}
}

func (p *plainDisk) crash(keep []int) {
	stand := slices.Clone(p.log[:p.kept])
	for i, w := range p.log[p.kept:] {
		if slices.Contains(keep, i) {
			stand = append(stand, w)
		}
	}
	p.log, p.kept, p.fails, p.off = stand, len(stand), -1, false
}

func (p *plainDisk) read(at int) string {
	for _, w := range slices.Backward(p.log) {
		if w.at == at {
			return w.text
		}
	}
	return ""
}

// drawn bytes: of any length, some too long.
func drawn(r *rand.Rand) []byte {
	b := make([]byte, r.IntN(api.Page+3))
	if r.IntN(3) == 0 {
		b = b[:min(len(b), r.IntN(3))]
	}
	for i := range b {
		b[i] = byte(r.IntN(256))
	}
	return b
}

// drawnKeep gives numbers of about so many Writes, some twice, some of none.
func drawnKeep(r *rand.Rand, writes int) []int {
	keep := make([]int, r.IntN(writes+4))
	for i := range keep {
		keep[i] = r.IntN(writes+4) - 2
	}
	return keep
}

// drawnStep does one thing to both, and holds their errors against each other.
func drawnStep(t *testing.T, r *rand.Rand, d *Disk, p *plainDisk) {
	t.Helper()
	switch k := r.IntN(20); {
	case k < 12:
		at, b := r.IntN(p.pages+2)-1, drawn(r)
		wantWrite(t, d, at, b, p.write(at, string(b)))
	case k < 15:
		wantSync(t, d, p.sync())
	case k < 17:
		n := r.IntN(12) - 2
		d.Fail(n)
		p.fail(n)
	case k < 19 && !p.off:
		return
	default:
		keep := drawnKeep(r, len(p.log)-p.kept)
		d.Crash(keep)
		p.crash(keep)
	}
}

// P1, P2: over drawn scripts each page is, behind each step, as the plain disk has it.
func TestAgainstPlain(t *testing.T) {
	r := rand.New(rand.NewPCG(10, 1))
	for range 600 {
		pages := 1 + r.IntN(6)
		d, p := mustNew(t, pages), &plainDisk{pages: pages, fails: -1}
		for range 120 {
			drawnStep(t, r, d, p)
			for at := range pages {
				wantPage(t, d, at, []byte(p.read(at)))
			}
		}
	}
}

// P2 (P2 of all): the same calls give the same answers.
func TestSameAgain(t *testing.T) {
	run := func() string {
		r := rand.New(rand.NewPCG(10, 2))
		d := mustNew(t, 5)
		var told []byte
		for range 400 {
			switch r.IntN(8) {
			case 0:
				d.Crash(drawnKeep(r, 6))
			case 1:
				d.Fail(r.IntN(9))
			case 2:
				told = append(told, byte(plain.Told(d.Sync())))
			default:
				told = append(told, byte(plain.Told(d.Write(r.IntN(6), drawn(r)))))
			}
			b, _ := d.Read(r.IntN(5))
			told = append(told, b...)
		}
		return string(told)
	}
	if run() != run() {
		t.Error("the same calls gave other answers")
	}
}
