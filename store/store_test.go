package store

import (
	"bytes"
	"fmt"
	"math/rand/v2"
	"slices"
	"testing"

	"footbridge/api"
	"footbridge/disk"
	"footbridge/plain"
)

// The numbers of the chapter, written out, so that a test does not lean on what the program made of them.
const (
	pages = 62
	full  = 960
)

func mustDisk(t *testing.T, n int) *disk.Disk {
	t.Helper()
	d, err := disk.New(n)
	if err != nil {
		t.Fatalf("disk.New(%d): %v", n, err)
	}
	return d
}

func mustOpen(t *testing.T, d *disk.Disk) *Store {
	t.Helper()
	s, err := Open(d)
	if err != nil || s == nil {
		t.Fatalf("Open: %v %v", s, err)
	}
	return s
}

// mustStore Formats a new disk, and Saves these, one behind the other.
func mustStore(t *testing.T, saved ...[]byte) (*disk.Disk, *Store) {
	t.Helper()
	d := mustDisk(t, pages)
	wantFormat(t, d, api.OK)
	s := mustOpen(t, d)
	for _, b := range saved {
		wantSave(t, s, b, api.OK)
	}
	return d, s
}

// wantErr asks for the error of a call, or that there is none.
func wantErr(t *testing.T, name string, err error, want api.Errno) {
	t.Helper()
	if got := plain.Told(err); got != want {
		t.Fatalf("%s: error %v, want %v", name, err, want)
	}
}

func wantFormat(t *testing.T, d *disk.Disk, want api.Errno) {
	t.Helper()
	wantErr(t, fmt.Sprintf("Format of %d pages", d.Pages()), Format(d), want)
}

func wantSave(t *testing.T, s *Store, b []byte, want api.Errno) {
	t.Helper()
	wantErr(t, fmt.Sprintf("Save of %d bytes", len(b)), s.Save(b), want)
}

// wantHas asks what a store Loads, and its Turn.
func wantHas(t *testing.T, s *Store, b []byte, turn int) {
	t.Helper()
	if got := s.Load(); !bytes.Equal(got, b) || s.Turn() != turn {
		t.Fatalf("Load %q, Turn %d, want %q, %d", got, s.Turn(), b, turn)
	}
}

// wantKept asks what who Opens has.
func wantKept(t *testing.T, d *disk.Disk, b []byte, turn int) {
	t.Helper()
	wantHas(t, mustOpen(t, d), b, turn)
}

// wantNone asks that Open finds no store.
func wantNone(t *testing.T, d *disk.Disk) {
	t.Helper()
	if s, err := Open(d); s != nil || plain.Told(err) != api.ErrSyntax {
		t.Fatalf("Open: %v %v, want ErrSyntax alone", s, err)
	}
}

// some gives n bytes, of which each page is of its own.
func some(n int, first byte) []byte {
	b := make([]byte, n)
	for i := range b {
		b[i] = first + byte(i) + byte(i/api.Page)*7
	}
	return b
}

// lengths are those where pages begin and end.
func lengths() []int {
	return []int{0, 1, 31, 32, 33, 63, 64, 65, full - 33, full - 32, full - 1, full}
}

// fill writes such bytes to each page, and keeps them.
func fill(t *testing.T, d *disk.Disk, page func(at int) []byte) {
	t.Helper()
	for at := range d.Pages() {
		wantErr(t, "Write", d.Write(at, page(at)), api.OK)
	}
	wantErr(t, "Sync", d.Sync(), api.OK)
}

// R1: a Disk of at least 2 and 2 times Half pages is Formatted; it keeps none, Turn 0.
func TestFormat(t *testing.T) {
	for n := pages; n <= api.MaxPages; n++ {
		d := mustDisk(t, n)
		wantNone(t, d)
		wantFormat(t, d, api.OK)
		for range 2 {
			wantKept(t, d, nil, 0)
			d.Crash(nil)
		}
		wantSave(t, mustOpen(t, d), some(full, 1), api.OK)
		wantKept(t, d, some(full, 1), 1)
	}
}

// R1: fewer pages are too few: nothing is changed, and no step is done; that comes ahead of ErrDown.
func TestFormatFull(t *testing.T) {
	for n := 1; n < pages; n++ {
		d := mustDisk(t, n)
		fill(t, d, func(at int) []byte { return some(api.Page, byte(at)) })
		d.Fail(0)
		for range 2 {
			wantFormat(t, d, api.ErrFull)
			wantNone(t, d)
			for at := range n {
				if b, err := d.Read(at); !bytes.Equal(b, some(api.Page, byte(at))) || err != nil {
					t.Fatalf("Format of %d pages changed page %d: %v", n, at, b)
				}
			}
		}
		wantErr(t, "Sync", d.Sync(), api.ErrDown)
		wantFormat(t, d, api.ErrFull)
	}
}

// R1: without power there is no Format, and what was there is there.
func TestFormatDown(t *testing.T) {
	d := mustDisk(t, pages)
	d.Fail(0)
	for range 2 {
		wantFormat(t, d, api.ErrDown)
		wantNone(t, d)
	}
	d.Crash(nil)
	wantNone(t, d)
	wantFormat(t, d, api.OK)
	wantKept(t, d, nil, 0)
	wantSave(t, mustOpen(t, d), []byte("a"), api.OK)
	d.Fail(0)
	wantErr(t, "Sync", d.Sync(), api.ErrDown)
	wantFormat(t, d, api.ErrDown)
	wantKept(t, d, []byte("a"), 1)
}

// R1: a Format of a Disk that has a Store already: it keeps none, Turn 0, and Saves count from there.
func TestFormatAgain(t *testing.T) {
	for saves := range 5 {
		d, s := mustStore(t)
		for i := range saves {
			wantSave(t, s, some(full, byte(i)), api.OK)
		}
		for range 3 {
			wantFormat(t, d, api.OK)
			wantKept(t, d, nil, 0)
			d.Crash(nil)
			wantKept(t, d, nil, 0)
		}
		again := mustOpen(t, d)
		for i := range 3 {
			wantSave(t, again, []byte{byte(i)}, api.OK)
			wantHas(t, again, []byte{byte(i)}, i+1)
			wantKept(t, d, []byte{byte(i)}, i+1)
		}
	}
}

// R1: what was not Formatted is told so, of whatever size.
func TestOpenNever(t *testing.T) {
	for n := 1; n <= api.MaxPages; n++ {
		d := mustDisk(t, n)
		wantNone(t, d)
		fill(t, d, func(at int) []byte { return some(api.Page, byte(at+1)) })
		wantNone(t, d)
		d.Fail(0)
		wantNone(t, d)
		wantErr(t, "Sync", d.Sync(), api.ErrDown)
		wantNone(t, d)
	}
}

// use does all that may be done with what Open gives, if it gives a store.
func use(t *testing.T, d *disk.Disk) {
	t.Helper()
	s, err := Open(d)
	if err != nil {
		wantNone(t, d)
		return
	}
	if len(s.Load()) > full || s.Turn() < 0 {
		t.Fatalf("Load of %d bytes, Turn %d", len(s.Load()), s.Turn())
	}
	wantSave(t, s, []byte("x"), api.OK)
	wantKept(t, d, []byte("x"), s.Turn())
}

// R1 (P1 of all): no pages that are Written otherwise make a panic: drawn ones, those of a store that a byte is changed of, and those of a store on a disk that is too small.
func TestOpenOther(t *testing.T) {
	r := rand.New(rand.NewPCG(11, 1))
	for range 300 {
		d := mustDisk(t, 1+r.IntN(api.MaxPages))
		fill(t, d, func(int) []byte {
			b := make([]byte, r.IntN(api.Page+1))
			for i := range b {
				b[i] = byte(r.IntN(256)) >> r.IntN(8)
			}
			return b
		})
		wantNone(t, d)
	}
	from, _ := mustStore(t, some(full, 1), some(full-5, 2))
	copied := func(at int) []byte { b, _ := from.Read(at); return b }
	for n := 1; n < pages; n++ {
		d := mustDisk(t, n)
		fill(t, d, copied)
		wantNone(t, d)
	}
	for at := range pages {
		for i := range api.Page {
			for _, x := range []byte{1, 2, 128, 255, byte(1 + r.IntN(255))} {
				d := mustDisk(t, pages)
				fill(t, d, copied)
				b, _ := d.Read(at)
				b[i] ^= x
				wantErr(t, "Write", d.Write(at, b), api.OK)
				wantErr(t, "Sync", d.Sync(), api.OK)
				use(t, d)
			}
		}
	}
}

// R1: bytes of any length up to Half times Page are kept, and Turn is one more each time.
func TestSave(t *testing.T) {
	d, s := mustStore(t)
	for n := range full + 1 {
		b := some(n, byte(n))
		wantSave(t, s, b, api.OK)
		wantHas(t, s, b, n+1)
		wantKept(t, d, b, n+1)
		d.Crash(nil)
		wantKept(t, d, b, n+1)
	}
}

// R1: of whatever length the bytes ahead were, nothing is left of them; a Save of no byte keeps none.
func TestSaveBehind(t *testing.T) {
	for _, first := range lengths() {
		for _, second := range lengths() {
			for ahead := range 2 {
				d, s := mustStore(t)
				for range ahead {
					wantSave(t, s, some(full, 9), api.OK)
				}
				wantSave(t, s, some(first, 100), api.OK)
				wantSave(t, s, some(second, 200), api.OK)
				wantHas(t, s, some(second, 200), ahead+2)
				wantKept(t, d, some(second, 200), ahead+2)
			}
		}
	}
}

// R1: bytes of 0 at the end are bytes as any others.
func TestSaveZero(t *testing.T) {
	for _, n := range lengths() {
		d, s := mustStore(t, some(full, 1), some(full, 2))
		wantSave(t, s, make([]byte, n), api.OK)
		wantKept(t, d, make([]byte, n), 3)
	}
}

// R1: the same bytes Saved again are Saved once more.
func TestSaveSame(t *testing.T) {
	for _, n := range lengths() {
		d, s := mustStore(t)
		for turn := 1; turn < 6; turn++ {
			wantSave(t, s, some(n, 3), api.OK)
			wantHas(t, s, some(n, 3), turn)
			wantKept(t, d, some(n, 3), turn)
		}
	}
}

// R1: Turn counts on, far above what a byte holds, through each Open.
func TestTurnFar(t *testing.T) {
	d, s := mustStore(t)
	for turn := 1; turn <= 70000; turn++ {
		wantSave(t, s, []byte{byte(turn)}, api.OK)
		if turn%997 == 0 {
			s = mustOpen(t, d)
		}
		if s.Turn() != turn {
			t.Fatalf("Turn %d, want %d", s.Turn(), turn)
		}
	}
	wantKept(t, d, []byte{byte(70000 % 256)}, 70000)
}

// R1: more bytes are too many: nothing is changed, Turn neither, and no step is done; that comes ahead of ErrDown.
func TestSaveFull(t *testing.T) {
	d, s := mustStore(t, []byte("a"))
	d.Fail(0)
	tooMany := func() {
		t.Helper()
		for _, n := range []int{full + 1, full + 2, full + 32, 2 * full, full + 256, 1 << 16, 1<<16 + 1, 1<<16 + full} {
			wantSave(t, s, some(n, 1), api.ErrFull)
			wantSave(t, s, make([]byte, n), api.ErrFull)
			wantHas(t, s, []byte("a"), 1)
			wantKept(t, d, []byte("a"), 1)
		}
	}
	tooMany()
	wantSave(t, s, some(full, 1), api.ErrDown)
	tooMany()
	d.Crash(nil)
	tooMany()
	s = mustOpen(t, d)
	tooMany()
	wantSave(t, s, some(full, 1), api.OK)
	wantKept(t, d, some(full, 1), 2)
}

// R1: a store keeps to its disk, and no two of them have anything in common.
func TestTwoDisks(t *testing.T) {
	d, s := mustStore(t, []byte("a"))
	e, u := mustStore(t)
	e.Fail(0)
	wantSave(t, u, []byte("b"), api.ErrDown)
	wantSave(t, s, []byte("c"), api.OK)
	wantHas(t, u, nil, 0)
	wantKept(t, d, []byte("c"), 2)
	wantKept(t, e, nil, 0)
}

// R1: of stores Opened on one disk, one behind the other, each has what was Saved ahead of its Open, and Saves behind it.
func TestOpenedAgain(t *testing.T) {
	d, s := mustStore(t)
	var stores []*Store
	for i := range 6 {
		stores = append(stores, s)
		wantHas(t, s, some(i*40, byte(i)), i)
		wantSave(t, s, some(i*40+40, byte(i+1)), api.OK)
		s = mustOpen(t, d)
	}
	for i, s := range stores {
		wantHas(t, s, some(i*40+40, byte(i+1)), i+1)
	}
}

// R1, R2: a store that was Opened ahead of what another one Saved: what it Saves is there, and Turn tells how often bytes were Saved; if its power goes off, what the other one Saved is there.
func TestOpenedAhead(t *testing.T) {
	for others := 1; others < 4; others++ {
		for fail := -1; fail < 8; fail++ {
			d, s := mustStore(t, some(100, 1))
			other := mustOpen(t, d)
			for i := range others {
				wantSave(t, other, some(90, byte(i+2)), api.OK)
			}
			d.Fail(fail)
			err := s.Save(some(50, 60))
			if fail < 0 {
				wantErr(t, "Save", err, api.OK)
			}
			if err == nil {
				wantHas(t, s, some(50, 60), others+2)
				wantKept(t, d, some(50, 60), others+2)
				continue
			}
			wantHas(t, s, some(100, 1), 1)
			d.Crash(nil)
			wantKept(t, d, some(90, byte(others+1)), others+1)
		}
	}
}

// R1 (P2 of all): what is handed to Save is neither written into nor kept, nor read behind its length.
func TestSaveKeepsNothing(t *testing.T) {
	for _, n := range lengths() {
		all := some(full+40, 50)
		b := slices.Clone(all)
		d, s := mustStore(t)
		wantSave(t, s, b[:n], api.OK)
		if !bytes.Equal(b, all) {
			t.Fatalf("Save of %d bytes wrote into them", n)
		}
		clear(b)
		wantHas(t, s, all[:n], 1)
		wantKept(t, d, all[:n], 1)
		wantSave(t, s, []byte("xyz"), api.OK)
		wantFormat(t, d, api.OK)
		if !bytes.Equal(b, make([]byte, len(b))) {
			t.Fatalf("what was handed in was written into behind the call: %v", b)
		}
	}
}

// R1 (P2 of all): what Load gives is the caller's, in its length and behind it, of a store that Saved and of one that was Opened.
func TestLoadGivesFresh(t *testing.T) {
	for _, n := range lengths() {
		d, saved := mustStore(t, some(n, 1))
		for _, s := range []*Store{saved, mustOpen(t, d)} {
			first, second := s.Load(), s.Load()
			first = first[:cap(first)]
			for i := range first {
				first[i] = 200
			}
			if !bytes.Equal(second, some(n, 1)) {
				t.Fatalf("two Loads of %d bytes share memory", n)
			}
			wantHas(t, s, some(n, 1), 1)
			wantKept(t, d, some(n, 1), 1)
		}
	}
}

// R1 (P2 of all): what Load gave stays as it was, whatever is Saved behind it.
func TestLoadStays(t *testing.T) {
	d, s := mustStore(t, some(40, 1))
	u := mustOpen(t, d)
	b, c := s.Load(), u.Load()
	for i := range 3 {
		wantSave(t, s, some(full, byte(i+2)), api.OK)
	}
	if !bytes.Equal(b, some(40, 1)) || !bytes.Equal(c, some(40, 1)) {
		t.Errorf("what was Loaded is %v, %v now", b, c)
	}
}

// choices of Writes to be kept, of about so many: all choices of the first few and of the last few with all or none of the others, each one alone, all but one, and drawn ones.
func choices(r *rand.Rand, writes int) [][]int {
	var l [][]int
	add := func(kept func(i int) bool) {
		var keep []int
		for i := range writes {
			if kept(i) {
				keep = append(keep, i)
			}
		}
		l = append(l, keep)
	}
	for set := range 1 << min(writes, 4) {
		add(func(i int) bool { return i < 4 && set>>i&1 == 1 })
		add(func(i int) bool { return i >= 4 || set>>i&1 == 1 })
	}
	for one := range writes {
		add(func(i int) bool { return i == one })
		add(func(i int) bool { return i != one })
	}
	for range 6 {
		drawn := r.Uint64()
		add(func(i int) bool { return drawn>>i&1 == 1 })
	}
	return l
}

// steps of what is done: how many of them must not fail for it to say no error.
func steps(t *testing.T, d *disk.Disk, do func() error) int {
	t.Helper()
	const far = 1000
	d.Fail(far)
	wantErr(t, "a call with no step that fails", do(), api.OK)
	left := 0
	for d.Sync() == nil {
		left++
	}
	d.Crash(nil)
	return far - left
}

// wantEither asks that who Opens has one of two, whole, by its Turn, and gives it.
func wantEither(t *testing.T, d *disk.Disk, was, next []byte, turn int) *Store {
	t.Helper()
	s := mustOpen(t, d)
	if s.Turn() == turn {
		wantHas(t, s, was, turn)
	} else {
		wantHas(t, s, next, turn+1)
	}
	return s
}

// wantDown asks that a store that said ErrDown says it again, and tells what it told ahead.
func wantDown(t *testing.T, s *Store, b []byte, turn int) {
	t.Helper()
	for _, n := range []int{0, 1, 40, full} {
		wantSave(t, s, some(n, 77), api.ErrDown)
		wantHas(t, s, b, turn)
	}
}

// cases of how many bytes are there, and how many are being Saved.
func cases() [][2]int {
	return [][2]int{{0, 0}, {0, 1}, {5, 0}, {32, 33}, {70, 60}, {full, 100}, {100, full}, {full, full}}
}

// R2: wherever the power goes off in a Save, and whatever is kept: what was Saved last is there, or what was being Saved, whole; and Saves go on from there. The store says ErrDown from then on, whatever is done behind it, and is as it was.
func TestSaveThroughFailure(t *testing.T) {
	r := rand.New(rand.NewPCG(11, 2))
	for _, l := range cases() {
		was, next := some(l[0], 10), some(l[1], 130)
		for ahead := range 2 {
			turn := ahead + 1
			d, s := mustStore(t, was)
			n := steps(t, d, func() error { return s.Save(next) })
			for fail := range n {
				for _, keep := range choices(r, n) {
					d, s := mustStore(t, slices.Repeat([][]byte{some(full, 60)}, ahead)...)
					wantSave(t, s, was, api.OK)
					d.Fail(fail)
					wantSave(t, s, next, api.ErrDown)
					wantDown(t, s, was, turn)
					d.Crash(keep)
					wantDown(t, s, was, turn)
					u := wantEither(t, d, was, next, turn)
					turnThen := u.Turn()
					wantSave(t, u, some(80, 200), api.OK)
					wantHas(t, u, some(80, 200), turnThen+1)
					wantKept(t, d, some(80, 200), turnThen+1)
					wantDown(t, s, was, turn)
				}
			}
		}
	}
}

// R2: where the step that is to fail is behind the Save, and where none is: what was Saved is there, whatever is kept.
func TestSaveIsKept(t *testing.T) {
	r := rand.New(rand.NewPCG(11, 3))
	for _, l := range cases() {
		d, s := mustStore(t, some(l[0], 10))
		next := some(l[1], 130)
		n := steps(t, d, func() error { return s.Save(next) })
		for _, fail := range []int{n, n + 1, n + 100, -1} {
			for _, keep := range choices(r, n) {
				d, s := mustStore(t, some(l[0], 10))
				d.Fail(fail)
				wantSave(t, s, next, api.OK)
				wantHas(t, s, next, 2)
				d.Crash(keep)
				wantHas(t, s, next, 2)
				wantKept(t, d, next, 2)
			}
		}
	}
}

// R2: a store that never said ErrDown goes on behind a Crash, also where the power was off between.
func TestCrashBetween(t *testing.T) {
	d, s := mustStore(t)
	for turn := 1; turn < 9; turn++ {
		wantSave(t, s, some(turn*100, byte(turn)), api.OK)
		if turn%2 == 0 {
			d.Fail(0)
			wantErr(t, "Sync", d.Sync(), api.ErrDown)
		}
		d.Crash(nil)
		wantHas(t, s, some(turn*100, byte(turn)), turn)
		wantKept(t, d, some(turn*100, byte(turn)), turn)
	}
}

// R2: where the power is off already, a Save says ErrDown, and so it does when the power is back; who Opens then may Save.
func TestSaveWithoutPower(t *testing.T) {
	d, s := mustStore(t, []byte("a"))
	d.Fail(0)
	wantErr(t, "Sync", d.Sync(), api.ErrDown)
	u := mustOpen(t, d)
	wantSave(t, u, []byte("b"), api.ErrDown)
	d.Crash(nil)
	wantDown(t, u, []byte("a"), 1)
	wantSave(t, s, []byte("c"), api.OK)
	wantKept(t, d, []byte("c"), 2)
	wantDown(t, u, []byte("a"), 1)
	wantSave(t, mustOpen(t, d), []byte("d"), api.OK)
	wantKept(t, d, []byte("d"), 3)
}

// R2: who Opens while the power is off has one of the two also, and may go on behind the Crash, be what it has there then or not: where that fails too, what who Opens between had is there, or what was being Saved.
func TestOpenWithoutPower(t *testing.T) {
	was, next, third := some(70, 10), some(60, 130), some(90, 220)
	d, s := mustStore(t, was)
	n := steps(t, d, func() error { return s.Save(next) })
	for fail := range n {
		for _, keep := range [][]int{nil, {0}, {1}, {0, 1, 2, 3}} {
			for again := range 9 {
				d, s := mustStore(t, was)
				d.Fail(fail)
				wantSave(t, s, next, api.ErrDown)
				u := wantEither(t, d, was, next, 1)
				d.Crash(keep)
				between, turn := mustOpen(t, d).Load(), u.Turn()
				d.Fail(again)
				err := u.Save(third)
				d.Crash(nil)
				want := between
				if err == nil {
					want = third
					wantHas(t, u, third, turn+1)
				}
				if got := mustOpen(t, d).Load(); !bytes.Equal(got, want) {
					t.Fatalf("fail %d, keep %v, then %d, %v: Load %v, want %v", fail, keep, again, err, got, want)
				}
			}
		}
	}
}

// R2: wherever the power goes off in a Format, and whatever is kept: of a disk that had no store there is none, or it keeps none; of one that had, what was there, or none, Turn 0.
func TestFormatThroughFailure(t *testing.T) {
	r := rand.New(rand.NewPCG(11, 4))
	d := mustDisk(t, pages)
	n := steps(t, d, func() error { return Format(d) })
	for fail := range max(n, 8) {
		for _, keep := range choices(r, 8) {
			for _, first := range []byte{0, 1} {
				d := mustDisk(t, pages)
				fill(t, d, func(int) []byte { return some(int(first)*api.Page, first) })
				d.Fail(fail)
				err := Format(d)
				d.Crash(keep)
				if _, none := Open(d); err != nil && none != nil {
					wantNone(t, d)
					wantFormat(t, d, api.OK)
				}
				wantKept(t, d, nil, 0)
			}
			for _, l := range lengths() {
				d, s := mustStore(t, []byte("ahead"), some(l, 40))
				d.Fail(fail)
				err := Format(d)
				d.Crash(keep)
				if u := mustOpen(t, d); err != nil && u.Turn() != 0 {
					wantHas(t, u, some(l, 40), 2)
					wantSave(t, s, []byte("behind"), api.OK)
					wantKept(t, d, []byte("behind"), 3)
					continue
				}
				wantKept(t, d, nil, 0)
			}
		}
	}
}

// plainStore has the bytes and the turn, and, behind an ErrDown, what was being done.
type plainStore struct {
	has, may   []byte
	turn, will int
	down       bool // the store says ErrDown
	off        bool // the power is off
	fails      int  // what Fail said last; below 0: no step fails
}

// drawnSave Saves drawn bytes, and asks that it fails only where a step is to fail.
func drawnSave(t *testing.T, r *rand.Rand, s *Store, p *plainStore) {
	t.Helper()
	b := some(r.IntN(full+1)>>r.IntN(8), byte(r.IntN(256)))
	got := plain.Told(s.Save(b))
	switch {
	case got == api.OK && !p.down && p.fails != 0:
		p.has, p.turn = b, p.turn+1
	case got == api.ErrDown && p.down:
	case got == api.ErrDown && p.fails >= 0:
		p.may, p.will, p.down, p.off = b, p.turn+1, true, true
	default:
		t.Fatalf("Save of %d bytes: %v, store down %v, Fail %d", len(b), got, p.down, p.fails)
	}
}

// drawnOpen Opens with the power on, and takes what is there of what may be there.
func drawnOpen(t *testing.T, d *disk.Disk, p *plainStore) *Store {
	t.Helper()
	s := mustOpen(t, d)
	if p.down && s.Turn() == p.will && bytes.Equal(s.Load(), p.may) {
		p.has, p.turn = p.may, p.will
	}
	p.down, p.may, p.will = false, nil, 0
	return s
}

// drawnStep does one thing to both.
func drawnStep(t *testing.T, r *rand.Rand, d *disk.Disk, s *Store, p *plainStore) *Store {
	t.Helper()
	switch k := r.IntN(10); {
	case k < 5:
		drawnSave(t, r, s, p)
	case k < 6:
		wantSave(t, s, some(full+1+r.IntN(9), 1), api.ErrFull)
	case k < 7 && !p.off:
		p.fails = r.IntN(45) - 2
		d.Fail(p.fails)
	case k < 8:
		d.Crash(drawnKeep(r))
		p.fails, p.off = -1, false
	case !p.off:
		return drawnOpen(t, d, p)
	}
	return s
}

// drawnKeep gives numbers of about as many Writes as a Save has.
func drawnKeep(r *rand.Rand) []int {
	keep := make([]int, r.IntN(40))
	for i := range keep {
		keep[i] = r.IntN(35) - 1
	}
	return keep
}

// R1, R2: over drawn scripts the store tells what the plain one has, behind each step.
func TestAgainstPlain(t *testing.T) {
	r := rand.New(rand.NewPCG(11, 5))
	for range 400 {
		d := mustDisk(t, pages+r.IntN(3))
		wantFormat(t, d, api.OK)
		s, p := mustOpen(t, d), &plainStore{fails: -1}
		for range 150 {
			s = drawnStep(t, r, d, s, p)
			wantHas(t, s, p.has, p.turn)
		}
	}
}

// R1 (P2 of all): the same calls give the same answers.
func TestSameAgain(t *testing.T) {
	run := func() string {
		r := rand.New(rand.NewPCG(11, 6))
		d, s := mustStore(t)
		var told []byte
		for range 400 {
			switch r.IntN(6) {
			case 0:
				d.Crash(drawnKeep(r))
			case 1:
				d.Fail(r.IntN(40))
			case 2:
				s = mustOpen(t, d)
			default:
				told = append(told, byte(plain.Told(s.Save(some(r.IntN(full+1), byte(r.IntN(256)))))))
			}
			told = append(append(told, s.Load()...), byte(s.Turn()))
		}
		return string(told)
	}
	if run() != run() {
		t.Error("the same calls gave other answers")
	}
}
