package run

import (
	"strconv"
	"strings"

	"footbridge/api"
	"footbridge/note"
)

// longest number that is read, in digits.
const longest = 9

// unread is what a reader panics with where it can't read.
type unread struct{}

// eventsOf a text, with a comma between.
func eventsOf(text string) []api.Event {
	var l []api.Event
	for one := range strings.SplitSeq(text, ",") {
		e, err := note.Parse(one)
		if err != nil {
			panic(unread{})
		}
		l = append(l, e)
	}
	return l
}

// numbersOf a text that has this many, with a blank between.
func numbersOf(text string, count int) []int {
	texts := strings.Split(text, " ")
	if len(texts) != count {
		panic(unread{})
	}
	l := make([]int, count)
	for i, one := range texts {
		l[i] = numberOf(one)
	}
	return l
}

// numberOf a text: what it may be is written, and must be the same. So a needless 0, a plus, and what is no number at all are refused without being looked for.
func numberOf(text string) int {
	n, _ := strconv.Atoi(text)
	if n < 0 || len(text) > longest || strconv.Itoa(n) != text {
		panic(unread{})
	}
	return n
}

// words of a list of anything, a blank between.
func words[T any](l []T, word func(T) string) string {
	texts := make([]string, len(l))
	for i, one := range l {
		texts[i] = word(one)
	}
	return strings.Join(texts, " ")
}

func yesOrNo(yes bool) string {
	if yes {
		return "yes"
	}
	return "no"
}

// between which nodes an edge is.
func between(e api.Edge) string {
	return strconv.Itoa(e.A) + "-" + strconv.Itoa(e.B)
}
