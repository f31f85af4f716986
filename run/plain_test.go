package run

import (
	"fmt"
	"maps"
	"regexp"
	"strconv"
	"strings"
)

// A plain run: the chapter's forms as patterns, the edges as a map, and each answer by trying all.

const (
	number = `(0|[1-9][0-9]{0,8})`
	event  = `[-+?]([0-9]|[1-5][0-9]) ([0-9]|[1-5][0-9])`
)

var (
	doForm   = regexp.MustCompile(`\Ado (` + event + `(,` + event + `)*)\z`)
	sizeForm = regexp.MustCompile(`\Asize ` + number + `\z`)
	wayForm  = regexp.MustCompile(`\Away ` + number + ` ` + number + `\z`)
)

// edges of a plain run: each stands in both orders.
type edges map[[2]int]bool

type plainSession struct {
	has, saved edges
	turn       int
}

// plainRun answers a text as the chapter says.
func plainRun(text string) string {
	if len(text) > maxRun {
		return "too long\n"
	}
	all := strings.Split(text, "\n")
	if all[len(all)-1] == "" {
		all = all[:len(all)-1]
	}
	s := &plainSession{has: edges{}, saved: edges{}, turn: 1}
	told := ""
	for _, line := range all {
		told += s.answer(line) + "\n"
	}
	return told
}

func (s *plainSession) answer(line string) string {
	switch line {
	case "parts":
		return strconv.Itoa(s.has.parts(-1))
	case "bridges":
		return s.has.bridges()
	case "joints":
		return s.has.joints()
	case "save":
		s.saved = maps.Clone(s.has)
		s.turn++
		return "ok"
	case "crash":
		s.has = maps.Clone(s.saved)
		return "ok"
	case "turn":
		return strconv.Itoa(s.turn)
	}
	if m := doForm.FindStringSubmatch(line); m != nil {
		return s.do(strings.Split(m[1], ","))
	}
	if m := sizeForm.FindStringSubmatch(line); m != nil {
		return s.has.size(atoi(m[1]))
	}
	if m := wayForm.FindStringSubmatch(line); m != nil {
		return s.has.way(atoi(m[1]), atoi(m[2]))
	}
	return "bad"
}

func (s *plainSession) do(l []string) string {
	if len(l) > maxEvents {
		return "ErrFull"
	}
	g := maps.Clone(s.has)
	var told []string
	for _, text := range l {
		a, b, _ := strings.Cut(text[1:], " ")
		answer := g.event(text[0], atoi(a), atoi(b))
		if strings.HasPrefix(answer, "Err") {
			return answer
		}
		if answer != "" {
			told = append(told, answer)
		}
	}
	s.has = g
	if told == nil {
		return "ok"
	}
	return strings.Join(told, " ")
}

// event is done; it answers what was asked, or the error.
func (g edges) event(mark byte, a, b int) string {
	there := g[[2]int{a, b}]
	switch {
	case a >= ofDesk || b >= ofDesk:
		return "ErrRange"
	case mark == '?' && g.far(a, -1)[b] >= 0:
		return "yes"
	case mark == '?':
		return "no"
	case mark == '+' && a == b:
		return "ErrShape"
	case mark == '+' && there:
		return "ErrClash"
	case mark == '-' && !there:
		return "ErrNone"
	case mark == '+':
		g[[2]int{a, b}], g[[2]int{b, a}] = true, true
	default:
		delete(g, [2]int{a, b})
		delete(g, [2]int{b, a})
	}
	return ""
}

// far is of each node how many edges the shortest way from a has, without the node out; -1: there is none.
func (g edges) far(a, out int) []int {
	l := make([]int, ofDesk)
	for i := range l {
		l[i] = -1
	}
	l[a] = 0
	for step := range ofDesk {
		for e := range g {
			if e[0] != out && e[1] != out && l[e[0]] == step && l[e[1]] < 0 {
				l[e[1]] = step + 1
			}
		}
	}
	return l
}

// parts of the nodes but out, where it is left out.
func (g edges) parts(out int) int {
	count := 0
	seen := map[int]bool{out: true}
	for a := range ofDesk {
		if seen[a] {
			continue
		}
		count++
		for b, far := range g.far(a, out) {
			if far >= 0 {
				seen[b] = true
			}
		}
	}
	return count
}

func (g edges) size(a int) string {
	if a >= ofDesk {
		return "ErrRange"
	}
	count := 0
	for _, far := range g.far(a, -1) {
		if far >= 0 {
			count++
		}
	}
	return strconv.Itoa(count)
}

func (g edges) way(a, b int) string {
	if a >= ofDesk || b >= ofDesk {
		return "ErrRange"
	}
	far := g.far(b, -1)
	if far[a] < 0 {
		return "ErrNone"
	}
	told := strconv.Itoa(a)
	for at := a; at != b; {
		for next := range ofDesk {
			if g[[2]int{at, next}] && far[next] == far[at]-1 {
				at = next
				break
			}
		}
		told += " " + strconv.Itoa(at)
	}
	return told
}

func (g edges) bridges() string {
	var told []string
	for a := range ofDesk {
		for b := a + 1; b < ofDesk; b++ {
			less := maps.Clone(g)
			if less.event('-', a, b) == "" && less.parts(-1) > g.parts(-1) {
				told = append(told, fmt.Sprintf("%d-%d", a, b))
			}
		}
	}
	return orNone(told)
}

func (g edges) joints() string {
	var told []string
	for a := range ofDesk {
		with := g.parts(-1)
		if g.size(a) == "1" {
			with-- // its part is itself alone, and not of the others
		}
		if g.parts(a) > with {
			told = append(told, strconv.Itoa(a))
		}
	}
	return orNone(told)
}

func orNone(told []string) string {
	if told == nil {
		return "-"
	}
	return strings.Join(told, " ")
}

// atoi of a text that is a number.
func atoi(text string) int {
	n, err := strconv.Atoi(text)
	if err != nil {
		panic(err)
	}
	return n
}
