package store

import (
	"bytes"

	"footbridge/api"
	"footbridge/disk"
)

// A head stands on one page alone, which is kept or not, but never in part: so one head is enough.
const (
	headAt  = 0
	firstAt = 1 // where the halves begin
)

// On the page of a head stand the mark, the half in 1 byte, the length in 2, the turn in 8, and 0 behind them.
const (
	mark     = "footbridge store"
	halfAt   = len(mark)
	lengthAt = halfAt + 1
	turnAt   = lengthAt + 2
	endAt    = turnAt + 8
)

// head tells in which half the bytes stand, how many they are, and how often some were Saved.
type head struct{ half, length, turn int }

func (h head) page() []byte {
	b := make([]byte, api.Page)
	copy(b, mark)
	write(b[halfAt:lengthAt], h.half)
	write(b[lengthAt:turnAt], h.length)
	write(b[turnAt:endAt], h.turn)
	return b
}

// headOf reads a page; it says false of one that no head gives.
func headOf(b []byte) (head, bool) {
	h := head{read(b[halfAt:lengthAt]), read(b[lengthAt:turnAt]), read(b[turnAt:endAt])}
	if h.half > 1 || h.length > most || h.turn < 0 || !bytes.Equal(b, h.page()) {
		return head{}, false
	}
	return h, true
}

// write fills b with a number, the lowest byte first.
func write(b []byte, n int) {
	for i := range b {
		b[i] = byte(n >> (8 * i))
	}
}

func read(b []byte) int {
	n := 0
	for i, x := range b {
		n |= int(x) << (8 * i)
	}
	return n
}

// start of a half, as a page.
func start(half int) int { return firstAt + half*api.Half }

// look finds the head of a disk; it says false where there is none.
func look(d *disk.Disk) (head, bool) {
	if d.Pages() < need {
		return head{}, false
	}
	b, err := d.Read(headAt)
	if err != nil {
		return head{}, false
	}
	return headOf(b)
}

// tell writes a head, and keeps it.
func tell(d *disk.Disk, h head) error {
	if err := d.Write(headAt, h.page()); err != nil {
		return err
	}
	return d.Sync()
}

// lay writes the bytes to the half that the head tells.
func lay(d *disk.Disk, h head, b []byte) error {
	at := start(h.half)
	for from := 0; from < len(b); from += api.Page {
		if err := d.Write(at, b[from:min(from+api.Page, len(b))]); err != nil {
			return err
		}
		at++
	}
	return nil
}

// fetch reads the bytes that the head tells of.
func fetch(d *disk.Disk, h head) []byte {
	var b []byte
	for at := start(h.half); len(b) < h.length; at++ {
		page, err := d.Read(at)
		if err != nil { // not of a disk that look took
			return nil
		}
		b = append(b, page...)
	}
	return b[:h.length]
}
