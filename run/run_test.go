package run

import (
	"fmt"
	"math/rand/v2"
	"slices"
	"strings"
	"testing"
)

// The numbers of the chapters, written out, so that a test does not lean on what the program made of them.
const (
	maxRun    = 3000
	maxEvents = 120
	ofDesk    = 20 // nodes
)

// lines of a text, each with byte 10 behind it.
func lines(l ...string) string {
	var b strings.Builder
	for _, line := range l {
		b.WriteString(line + "\n")
	}
	return b.String()
}

// wantText asks for all that a text is answered.
func wantText(t *testing.T, text, want string) {
	t.Helper()
	if got := Run(text); got != want {
		t.Fatalf("Run of %q: %q, want %q", text, got, want)
	}
}

// wantLines asks for the answers of lines, which stand by turns: a line, its answer.
func wantLines(t *testing.T, l ...string) {
	t.Helper()
	var asked, want []string
	for pair := range slices.Chunk(l, 2) {
		asked, want = append(asked, pair[0]), append(want, pair[1])
	}
	wantText(t, lines(asked...), lines(want...))
}

// wantBad asks that a line is bad, and that it changes nothing: behind some edges, of which one is not saved.
func wantBad(t *testing.T, line string) {
	t.Helper()
	wantLines(t,
		"do +0 1,+2 3", "ok",
		"save", "ok",
		"do +1 2", "ok",
		line, "bad",
		"bridges", "0-1 1-2 2-3",
		"turn", "2",
		"crash", "ok",
		"bridges", "0-1 2-3",
		"turn", "2")
}

// events gives the line that does these.
func events(l ...string) string { return "do " + strings.Join(l, ",") }

// row gives an event's text for each two nodes that follow each other.
func row(mark string, l ...int) []string {
	var texts []string
	for i := 1; i < len(l); i++ {
		texts = append(texts, fmt.Sprintf("%s%d %d", mark, l[i-1], l[i]))
	}
	return texts
}

// some gives so many events that have no error, of which none asks: an edge comes, and goes.
func some(count int) []string {
	var l []string
	for i := range count {
		l = append(l, []string{"+4 5", "-5 4"}[i%2])
	}
	return l
}

// Z1: the chapter's table, all its lines behind each other.
func TestTable(t *testing.T) {
	wantLines(t,
		"parts", "20",
		"do +0 1,+1 2,?0 2", "yes",
		"do +3 2", "ok",
		"do +1 3,?0 3,?0 4,-0 1,?0 3", "yes no no",
		"parts", "18",
		"size 3", "3",
		"size 0", "1",
		"way 2 1", "2 1",
		"do +0 1", "ok",
		"way 0 3", "0 1 3",
		"bridges", "0-1",
		"joints", "1",
		"turn", "1",
		"save", "ok",
		"turn", "2",
		"do -2 3,-1 3", "ok",
		"bridges", "0-1 1-2",
		"crash", "ok",
		"bridges", "0-1",
		"turn", "2",
		"fly", "bad")
}

// Z1: a text of MaxRun bytes is answered, one of more is not, whatever stands in it.
func TestTooLong(t *testing.T) {
	const tooLong = "too long\n"
	full := strings.Repeat("turn\n", maxRun/5)
	wantText(t, full, strings.Repeat("1\n", maxRun/5))
	wantText(t, strings.Repeat("x", maxRun), "bad\n")
	wantText(t, strings.Repeat("\n", maxRun), strings.Repeat("bad\n", maxRun))
	wantText(t, strings.Repeat("é", maxRun/2), "bad\n")
	for _, more := range []string{"\n", "t", "turn\n", " ", "\x00", full, strings.Repeat(full, 300)} {
		wantText(t, full+more, tooLong)
		wantText(t, more+full, tooLong)
	}
	wantText(t, strings.Repeat("x", maxRun+1), tooLong)
	wantText(t, strings.Repeat("\n", maxRun+1), tooLong)
	wantText(t, strings.Repeat("é", maxRun/2+1), tooLong)
}

// Z1: a text is cut at byte 10, and there alone; a last piece that is empty is none.
func TestCut(t *testing.T) {
	wantText(t, "", "")
	wantText(t, "\n", "bad\n")
	wantText(t, "\n\n", "bad\nbad\n")
	wantText(t, "turn", "1\n")
	wantText(t, "turn\n", "1\n")
	wantText(t, "turn\n\n", "1\nbad\n")
	wantText(t, "\nturn", "bad\n1\n")
	wantText(t, "\nturn\n", "bad\n1\n")
	wantText(t, "turn\n\nparts", "1\nbad\n20\n")
	wantText(t, "turn\nparts", "1\n20\n")
	wantText(t, "turn\nparts\n", "1\n20\n")
	wantText(t, "x", "bad\n")
	wantText(t, " ", "bad\n")
	for _, apart := range []string{"\r", "\v", "\f", "\x00", "\x1e", "\x85", "\u0085", "\u2028", "\u2029", "\\n", ";", ",", " ", "\t"} {
		wantText(t, "turn"+apart+"turn", "bad\n")
		wantText(t, "turn"+apart+"\nturn", "bad\n1\n")
		wantText(t, "turn\n"+apart+"turn\nturn", "1\nbad\n1\n")
		wantText(t, apart, "bad\n")
	}
}

// Z1: what is no line of the table is bad, and does nothing.
func TestNoLine(t *testing.T) {
	l := []string{"", " ", "\t", "\r", "\x00", "\x80", "\xff\xfe", "\xc3\x28", "\xed\xa0\x80", "é", "日本", "\U0001f309",
		"fly", "ok", "bad", "yes", "-", "0", "1 2", "too long", "edges", "tree", "graph", "nodes", "open", "sync", "fail", "format",
		"part", "bridge", "joint", "saves", "crashes", "turns", "sizes", "ways", "done", "add 0 1", "+0 4", "-0 1", "?0 1", "0-1", "quit"}
	for _, line := range l {
		wantBad(t, line)
	}
	wantBad(t, strings.Repeat("save ", 500))
}

// Z1: each line of the table with a word too many or too few, a blank too many, or another byte anywhere in its name.
func TestNearlyLine(t *testing.T) {
	rest := map[string]string{"do": " -0 1", "parts": "", "size": " 0", "way": " 0 0", "bridges": "", "joints": "", "save": "", "crash": "", "turn": ""}
	for name, words := range rest {
		line := name + words
		l := []string{line + " ", " " + line, "  " + line, line + "  ", line + "\t", "\t" + line, line + "\r", line + "\x00", "\x00" + line, line + ",", "," + line,
			line + " 0", line + " 0 0", line + " x", line + " " + name, name + " " + line, line + " " + line, line + line,
			strings.ToUpper(line[:1]) + line[1:], strings.ToUpper(name) + words, "\ufeff" + line, line + "\xff"}
		if words != "" {
			l = append(l, name, name+" ", name+"  ", name+" "+words, name+"\t"+words[1:], name+"\u00a0"+words[1:], name+","+words[1:], name+words[1:])
		}
		for i := range name {
			l = append(l, line[:i]+line[i+1:], line[:i]+" "+line[i:], line[:i]+line[i:i+1]+line[i:])
			for b := range 256 {
				if byte(b) != '\n' && byte(b) != line[i] {
					l = append(l, line[:i]+string([]byte{byte(b)})+line[i+1:])
				}
			}
		}
		for _, one := range l {
			wantText(t, lines("do +0 1,+2 3", "save", "do +1 2", one, "bridges", "turn"), lines("ok", "ok", "ok", "bad", "0-1 1-2 2-3", "2"))
		}
		wantBad(t, name+" ")
		wantBad(t, line+" ")
		wantBad(t, " "+line)
	}
	for _, line := range []string{"way 0", "way 0 ", "way  0", "way 0  0", "way 0 0 0", "size 0 0", "size 0,0", "way 0,0", "way 0-0", "do 0 1", "do -0", "do -", "do -0 1 2", "do - 0 1", "do -0  1", "do -0,1"} {
		wantBad(t, line)
	}
}

// noNumbers are texts that are none of the chapter's numbers.
var noNumbers = []string{"00", "01", "019", "000000000", "000000001", "0000000000", "1000000000", "9999999999", "0000000019",
	"4294967296", "4294967315", "9223372036854775807", "9223372036854775808", "18446744073709551616", "18446744073709551635", strings.Repeat("1", 40),
	"-1", "-0", "--1", "+1", "+0", "-", "+", "a", "1a", "a1", "1a1", "0x1", "0b1", "0o1", "1_0", "1.", "1.0", ".1", "1e1", "1,0", "'1'", "1\r", "1\t", "\t1", "1\x00", "\x001", "\x80", "\xff", "١", "१", "１", "²", "Ⅳ", "−1", "nil", "x"}

// Z1: numbers are decimal, without a needless 0, of at most nine digits; one that is no node has its error.
func TestNumbers(t *testing.T) {
	for _, no := range append([]string{""}, noNumbers...) {
		wantBad(t, "size "+no)
		wantBad(t, "way "+no+" 0")
		wantBad(t, "way 0 "+no)
		wantBad(t, "way "+no+" "+no)
		wantBad(t, "way 20 "+no)
	}
	for a := range ofDesk {
		wantLines(t, fmt.Sprint("size ", a), "1", fmt.Sprintf("way %d %d", a, a), fmt.Sprint(a))
	}
	for _, a := range []int{20, 21, 29, 59, 60, 61, 99, 100, 256, 1000, 65536, 1000000, 99999999, 100000000, 999999999} {
		wantLines(t, fmt.Sprint("size ", a), "ErrRange",
			fmt.Sprint("way 0 ", a), "ErrRange",
			fmt.Sprint("way ", a, " 0"), "ErrRange",
			fmt.Sprintf("way %d %d", a, a), "ErrRange",
			"parts", "20")
	}
}

// Z1: all short texts of some bytes behind the lines that have numbers, held against the chapter's form.
func TestShortTexts(t *testing.T) {
	var l []string
	short := []string{""}
	for range 4 {
		var longer []string
		for _, text := range short {
			for _, b := range "019 -,a" {
				longer = append(longer, text+string(b))
			}
		}
		l = append(l, longer...)
		short = longer
	}
	for some := range slices.Chunk(l, 100) {
		var asked []string
		for _, text := range some {
			asked = append(asked, "size "+text, "way "+text)
		}
		wantText(t, lines(asked...), plainRun(lines(asked...)))
	}
}

// Z1: do tells of each Ask, in order, and ok where there is none.
func TestDo(t *testing.T) {
	wantLines(t,
		"do ?0 1", "no",
		"do ?7 7", "yes",
		"do +0 1", "ok",
		"do ?0 1", "yes",
		"do ?1 0", "yes",
		"do -1 0", "ok",
		"do ?0 1", "no",
		"do +10 9,+9 8,?8 10,?8 11,?10 8,-9 10,?8 10,?9 8", "yes no yes no yes",
		"do +19 0,?0 19,-0 19", "yes",
		"bridges", "8-9",
		"do +0 1,-0 1,+0 1,-0 1,+1 0", "ok",
		"bridges", "0-1 8-9")
}

// Z1: as many events as a Desk takes at once, and more.
func TestDoMany(t *testing.T) {
	var asks, answers []string
	for i := range maxEvents {
		asks, answers = append(asks, fmt.Sprintf("?0 %d", i%3)), append(answers, []string{"yes", "yes", "no"}[i%3])
	}
	wantLines(t,
		"do +0 1", "ok",
		events(asks...), strings.Join(answers, " "),
		events(some(maxEvents)...), "ok",
		events(some(maxEvents-1)...), "ok",
		"bridges", "0-1 4-5")
	wantLines(t,
		"do +0 1", "ok",
		events(append(asks, "?0 1")...), "ErrFull",
		events(some(maxEvents+1)...), "ErrFull",
		events(some(300)...), "ErrFull",
		"bridges", "0-1")
	wrong := append(some(maxEvents), "+3 3")
	wantLines(t, events(wrong...), "ErrFull", "parts", "20")
	wantBad(t, events(append(some(maxEvents), "+3")...))
	wantBad(t, events(append([]string{"+60 0"}, some(maxEvents)...)...))
}

// Z1: what chapter 9 does not read as events with a comma between is bad, and nothing is done.
func TestDoBad(t *testing.T) {
	l := []string{"", ",", "+4 5,", ",+4 5", "+4 5,,+5 6", "+4 5,+5 6,", "+4 5, +5 6", "+4 5 ,+5 6", "+4 5;+5 6", "+4 5 +5 6", "+4 5,+5", "+4 5,+ 5 6", "+4 5,+5 6 ", " +4 5",
		"+4 5\t,+5 6", "+4 5,+5 6\r", "+4 5\x00", "+4 5,\x00", "+4 5,\xff", "+4\t5", "+4,5", "+4", "+", "4 5", "+4  5", "+4 5 6", "*4 5", "=4 5", "++4 5", "+-4 5", "+4 -5", "+4 +5", "?", "-", "??4 5", "＋4 5", "+4\u00a05",
		"+4 60", "+60 4", "+60 60", "?4 60", "-4 60", "+4 99", "+4 100", "+4 256", "+4 4294967296", "+4 5,do +5 6", "ok", "parts", "save"}
	for _, text := range l {
		wantBad(t, "do "+text)
		wantBad(t, "do +4 6,"+text)
		wantBad(t, "do "+text+",+4 6")
		wantBad(t, "do +4 4,"+text)
		wantBad(t, "do "+text+",+4 4")
	}
	for _, no := range noNumbers {
		wantBad(t, "do +4 "+no)
		wantBad(t, "do ?"+no+" 4")
	}
}

// Z1: where an event has an error, that of the first one is told, and none is done, wherever it stands.
func TestDoErrors(t *testing.T) {
	wrong := map[string]string{
		"+0 20": "ErrRange", "+20 0": "ErrRange", "+20 20": "ErrRange", "+0 59": "ErrRange", "-0 20": "ErrRange", "-59 3": "ErrRange", "?0 20": "ErrRange", "?59 59": "ErrRange",
		"+4 4": "ErrShape", "+0 0": "ErrShape",
		"+0 1": "ErrClash", "+1 0": "ErrClash", "+2 1": "ErrClash",
		"-0 2": "ErrNone", "-2 0": "ErrNone", "-7 8": "ErrNone", "-7 7": "ErrNone",
	}
	for one, name := range wrong {
		for _, l := range [][]string{{one}, {one, "+5 6", "-1 2"}, {"+5 6", one, "-1 2"}, {"+5 6", "-0 1", "+0 1", one}, {"?0 2", one, "?0 3"}, {one, "+9 9"}, {one, "?0 59"}, {one, one}} {
			wantLines(t,
				"do +0 1,+1 2", "ok",
				events(l...), name,
				"bridges", "0-1 1-2",
				"parts", "18",
				"do ?5 6,?0 2", "no yes",
				"turn", "1")
		}
	}
	wantLines(t,
		"do +0 1,+0 1", "ErrClash",
		"do +0 1,-0 1,-0 1", "ErrNone",
		"do -3 4,+3 3", "ErrNone",
		"do +3 3,-3 4", "ErrShape",
		"do +3 4,?3 20,+5 5", "ErrRange",
		"parts", "20")
}

// Z1: parts and size, of no edge, a way, a ring and several parts.
func TestPartsAndSize(t *testing.T) {
	wantLines(t, "parts", "20", "size 0", "1", "size 19", "1", "size 20", "ErrRange")
	wantLines(t, events(row("+", 0, 1, 2, 3, 4)...), "ok", "parts", "16", "size 0", "5", "size 4", "5", "size 2", "5", "size 5", "1")
	wantLines(t, events(row("+", 5, 6, 7, 8, 5)...), "ok", "parts", "17", "size 5", "4", "size 8", "4", "size 9", "1")
	wantLines(t, events(append(row("+", 0, 19, 18), row("+", 3, 1)...)...), "ok", "parts", "17", "size 0", "3", "size 18", "3", "size 3", "2", "size 2", "1")
	all := row("+", 0, 1, 2, 3, 4, 5, 6, 7, 8, 9, 10, 11, 12, 13, 14, 15, 16, 17, 18, 19)
	wantLines(t, events(all...), "ok", "parts", "1", "size 0", "20", "size 19", "20", "do -9 10", "ok", "parts", "2", "size 9", "10", "do +0 19", "ok", "parts", "1", "size 7", "20")
}

// Z1: way tells the shortest, of several the one that is first, node by node.
func TestWay(t *testing.T) {
	wantLines(t, "way 0 0", "0", "way 19 19", "19", "way 0 1", "ErrNone", "way 0 20", "ErrRange", "way 20 20", "ErrRange")
	wantLines(t, events(row("+", 0, 1, 2, 3, 4)...), "ok", "way 0 4", "0 1 2 3 4", "way 4 0", "4 3 2 1 0", "way 1 3", "1 2 3", "way 3 3", "3", "way 4 5", "ErrNone", "way 5 4", "ErrNone")
	wantLines(t, events(row("+", 5, 6, 7, 8, 5)...), "ok", "way 5 7", "5 6 7", "way 7 5", "7 6 5", "way 6 8", "6 5 8", "way 8 6", "8 5 6", "way 5 8", "5 8")
	wantLines(t, "do +0 19,+19 10,+0 3,+3 10,+10 2", "ok", "way 0 2", "0 3 10 2", "way 2 0", "2 10 3 0", "do -0 3", "ok", "way 0 2", "0 19 10 2", "do +2 0", "ok", "way 0 2", "0 2", "way 19 2", "19 0 2")
	wantLines(t, "do +0 1,+2 3", "ok", "way 1 2", "ErrNone", "way 1 0", "1 0", "way 3 2", "3 2")
}

// Z1: bridges and joints rise, and where there is none it is told by a stroke.
func TestBridgesAndJoints(t *testing.T) {
	wantLines(t, "bridges", "-", "joints", "-")
	wantLines(t, "do +1 0", "ok", "bridges", "0-1", "joints", "-", "do -0 1", "ok", "bridges", "-")
	wantLines(t, events(row("+", 4, 3, 2, 1, 0)...), "ok", "bridges", "0-1 1-2 2-3 3-4", "joints", "1 2 3")
	wantLines(t, events(row("+", 5, 6, 7, 8, 5)...), "ok", "bridges", "-", "joints", "-", "do +8 9", "ok", "bridges", "8-9", "joints", "8", "do -6 7", "ok", "bridges", "5-6 5-8 7-8 8-9", "joints", "5 8")
	wantLines(t, "do +10 2,+2 9,+9 10,+10 11,+11 12,+12 10", "ok", "bridges", "-", "joints", "10")
	wantLines(t, "do +19 18,+2 10,+10 3,+0 5,+5 9,+9 0", "ok", "bridges", "2-10 3-10 18-19", "joints", "10")
	wantLines(t, events(row("+", 0, 1, 2, 0, 3, 4, 5, 3)...), "ok", "bridges", "0-3", "joints", "0 3")
}

// Z1: what was saved is there behind a crash, what was not saved is not.
func TestSaveAndCrash(t *testing.T) {
	wantLines(t, "crash", "ok", "parts", "20", "bridges", "-", "turn", "1", "crash", "ok", "turn", "1")
	wantLines(t, "do +0 1", "ok", "crash", "ok", "bridges", "-", "do -0 1", "ErrNone", "do +0 1", "ok", "bridges", "0-1")
	wantLines(t, "do +0 1", "ok", "save", "ok", "crash", "ok", "bridges", "0-1", "do +0 1", "ErrClash", "do -0 1", "ok", "crash", "ok", "bridges", "0-1", "crash", "ok", "bridges", "0-1")
	wantLines(t, "do +0 1", "ok", "save", "ok", "do -0 1,+1 2", "ok", "bridges", "1-2", "save", "ok", "do +0 1", "ok", "crash", "ok", "bridges", "1-2",
		"do -1 2", "ok", "save", "ok", "crash", "ok", "bridges", "-", "turn", "4")
	wantLines(t, "save", "ok", "do +0 0", "ErrShape", "crash", "ok", "do +0 1,+0 1", "ErrClash", "save", "ok", "crash", "ok", "parts", "20", "turn", "3")
}

// Z1: the turn is one more behind each save, and a crash leaves it.
func TestTurn(t *testing.T) {
	l := []string{"turn", "1"}
	for i := range 40 {
		turn := fmt.Sprint(i + 2)
		l = append(l, "save", "ok", "turn", turn)
		if i%3 == 0 {
			l = append(l, fmt.Sprintf("do +%d 19", i/3), "ok", "turn", turn)
		}
		if i%4 == 0 {
			l = append(l, "crash", "ok", "turn", turn)
		}
	}
	wantLines(t, l...)
}

// Z1: all edges that 20 nodes may have are kept by a save.
func TestAllEdges(t *testing.T) {
	var l, answers []string
	for a := range ofDesk {
		var one []string
		for b := range a {
			one = append(one, fmt.Sprintf("+%d %d", a, b))
		}
		if a > 0 {
			l, answers = append(l, events(one...)), append(answers, "ok")
		}
	}
	l = append(l, "save", "do -0 1,-3 4", "crash", "parts", "size 7", "way 3 18", "way 4 3", "bridges", "joints", "turn", "do +0 1", "do -0 1,-3 4", "way 4 3")
	answers = append(answers, "ok", "ok", "ok", "1", "20", "3 18", "4 3", "-", "-", "2", "ErrClash", "ok", "4 0 3")
	wantText(t, lines(l...), lines(answers...))
}

// wantAnswer asks for a session's answer to one line.
func wantAnswer(t *testing.T, s *session, line, want string) {
	t.Helper()
	if got := s.answer(line); got != want {
		t.Fatalf("%q: %q, want %q", line, got, want)
	}
}

// Z1: of the Writes that are not kept a crash keeps none; where the disk has an error, save and crash tell it, and the session goes on.
func TestDiskErrors(t *testing.T) {
	s := begin()
	if s.disk.Pages() != 62 || s.Nodes() != ofDesk {
		t.Fatalf("%d pages, %d nodes", s.disk.Pages(), s.Nodes())
	}
	wantAnswer(t, s, "do +0 1", "ok")
	wantAnswer(t, s, "save", "ok")
	wantAnswer(t, s, "do +1 2", "ok")
	s.disk.Fail(0)
	wantAnswer(t, s, "save", "ErrDown")
	wantAnswer(t, s, "bridges", "0-1 1-2")
	wantAnswer(t, s, "crash", "ok")
	wantAnswer(t, s, "bridges", "0-1")
	wantAnswer(t, s, "save", "ok")
	wantAnswer(t, s, "turn", "3")

	spoilt := []byte("spoilt")
	if err := s.disk.Write(0, spoilt); err != nil {
		t.Fatal(err)
	}
	wantAnswer(t, s, "crash", "ok")
	if err := s.disk.Write(0, spoilt); err != nil {
		t.Fatal(err)
	}
	if err := s.disk.Sync(); err != nil {
		t.Fatal(err)
	}
	wantAnswer(t, s, "crash", "ErrSyntax")
	wantAnswer(t, s, "bridges", "0-1")
	wantAnswer(t, s, "turn", "3")
}

// Z1: what can't be read is told by the type of its panic: a fault of the program, which has another, is not taken for it.
func TestOtherPanic(t *testing.T) {
	defer func() {
		if recover() == nil {
			t.Fatal("a session without a desk answered")
		}
	}()
	new(session).answer("turn")
}

// drawText draws lines, most of them right, till the text has about so many bytes.
func drawText(r *rand.Rand, size int) string {
	var b strings.Builder
	few := 3 + r.IntN(ofDesk) // nodes that are named, of which some may be none
	for b.Len() < size {
		line := drawLine(r, few)
		if r.IntN(12) == 0 {
			line = spoil(r, line)
		}
		b.WriteString(line + "\n")
	}
	text := b.String()
	if r.IntN(2) == 0 {
		return text[:len(text)-1]
	}
	return text
}

func drawLine(r *rand.Rand, few int) string {
	switch r.IntN(14) {
	case 0:
		return "parts"
	case 1:
		return fmt.Sprint("size ", r.IntN(few))
	case 2, 3:
		return fmt.Sprintf("way %d %d", r.IntN(few), r.IntN(few))
	case 4:
		return "bridges"
	case 5:
		return "joints"
	case 6:
		return "save"
	case 7:
		return "crash"
	case 8:
		return "turn"
	}
	var l []string
	for range 1 + r.IntN(1+r.IntN(8)) {
		l = append(l, fmt.Sprintf("%c%d %d", "++++-???"[r.IntN(8)], r.IntN(few), r.IntN(few)))
	}
	return events(l...)
}

// spoil a line: a byte is changed, put in, left out or told twice.
func spoil(r *rand.Rand, line string) string {
	at := r.IntN(len(line))
	b := "0123456789 ,+-?aesSW\n\r\x00\xff"[r.IntN(24)]
	switch r.IntN(4) {
	case 0:
		return line[:at] + string([]byte{b}) + line[at+1:]
	case 1:
		return line[:at] + string([]byte{b}) + line[at:]
	case 2:
		return line[:at] + line[at+1:]
	}
	return line[:at+1] + line[at:]
}

// Z1: drawn texts, held against a plain run.
func TestDrawn(t *testing.T) {
	r := rand.New(rand.NewPCG(13, 1))
	for range 1000 {
		text := drawText(r, 1+r.IntN(600))
		wantText(t, text, plainRun(text))
	}
	for range 60 {
		text := drawText(r, 2900+r.IntN(150))
		wantText(t, text, plainRun(text))
	}
}

// Z1: drawn bytes, of which few make a line.
func TestDrawnBytes(t *testing.T) {
	r := rand.New(rand.NewPCG(13, 2))
	pieces := []string{"do", "size", "way", "parts", "save", "crash", "turn", "joints", "bridges", " ", " ", " ", "\n", "\n", ",", "+0 1", "-0 1", "?0 1", "+1 2", "0", "1", "19", "20", "00", "-1", "\r", "\x00", "\xff"}
	for range 3000 {
		var b strings.Builder
		for range r.IntN(40) {
			b.WriteString(pieces[r.IntN(len(pieces))])
		}
		wantText(t, b.String(), plainRun(b.String()))
	}
}

// Z2: the answers to the first lines are the beginning of the answers to all, with byte 10 behind the last of them or without.
func TestFirstLines(t *testing.T) {
	r := rand.New(rand.NewPCG(13, 3))
	for range 60 {
		text := drawText(r, 1+r.IntN(500))
		all := strings.SplitAfter(Run(text), "\n")
		count := 0
		for i := range len(text) {
			if text[i] != '\n' {
				continue
			}
			count++
			first := strings.Join(all[:count], "")
			wantText(t, text[:i+1], first)
			if i > 0 && text[i-1] != '\n' {
				wantText(t, text[:i], first)
			}
		}
	}
}

// Z2: it holds up to MaxRun bytes; where the whole is too long, its first lines are answered all the same.
func TestFirstLinesOfLong(t *testing.T) {
	text := lines("do +0 1,+1 2", "save", "do +2 3", "crash", "size 0") + strings.Repeat("turn\n", 600)
	if Run(text) != "too long\n" {
		t.Fatal("the whole is not too long")
	}
	whole := Run(text[:maxRun])
	for i := range maxRun {
		if text[i] == '\n' && !strings.HasPrefix(whole, Run(text[:i+1])) {
			t.Fatalf("the answers to the first %d bytes are not the beginning of those to %d", i+1, maxRun)
		}
	}
	if !strings.HasPrefix(whole, "ok\nok\nok\nok\n3\n2\n") {
		t.Fatalf("answers: %q", whole[:20])
	}
}

// Z2: nothing is left of an earlier call, nor of one that runs beside it.
func TestTwice(t *testing.T) {
	r := rand.New(rand.NewPCG(13, 4))
	var texts, answers []string
	for range 100 {
		text := drawText(r, 1+r.IntN(400))
		texts, answers = append(texts, text), append(answers, Run(text))
	}
	for i := range texts {
		wantText(t, texts[len(texts)-1-i], answers[len(texts)-1-i])
		wantText(t, texts[i], answers[i])
		wantText(t, "turn\nparts\n", "1\n20\n")
	}
	beside := make(chan int)
	for i, text := range texts {
		go func() {
			if Run(text) == answers[i] {
				i = -1
			}
			beside <- i
		}()
	}
	for range texts {
		if i := <-beside; i >= 0 {
			t.Errorf("Run of %q beside others is answered otherwise than alone", texts[i])
		}
	}
}
