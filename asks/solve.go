package asks

import (
	"footbridge/api"
	"footbridge/union"
)

// solver of all that is asked. A union cannot drop one edge of several, but can take back the last ones; so the events are halved over and over, and an edge is joined for those stretches alone all through which it is there.
type solver struct {
	*union.Union // has just the edges that are there all through the stretch that is looked at
	events       []api.Event
	answers      []bool
}

// solved gives the answers to what is asked by events that are right, of which these are the spans.
func solved(n int, l []api.Event, spans [][2]int) ([]bool, error) {
	u, err := union.New(n)
	if err != nil {
		return nil, err
	}
	s := &solver{Union: u, events: l}
	s.solve(0, len(l), spans)
	return s.answers, nil
}

// solve the events from low on, ahead of high. The spans are of those edges that the greater stretch, of which this is a half, has in a piece of it; what it has all through is joined already. No union's error can come: the nodes are its own, and the mark is one that it gave.
func (s *solver) solve(low, high int, spans [][2]int) {
	mark := s.Mark()
	rest := s.joinWhole(low, high, spans)
	if high-low == 1 {
		s.answer(s.events[low])
	}
	if high-low > 1 {
		mid := low + (high-low)/2
		s.solve(low, mid, rest)
		s.solve(mid, high, rest)
	}
	_ = s.Back(mark)
}

// joinWhole joins the edges that are there all through a stretch, and gives the spans of those that are there in a piece of it.
func (s *solver) joinWhole(low, high int, spans [][2]int) [][2]int {
	var rest [][2]int
	for _, span := range spans {
		switch {
		case span[0] <= low && span[1] >= high:
			e := s.events[span[0]]
			_, _ = s.Join(e.A, e.B)
		case span[0] < high && span[1] > low:
			rest = append(rest, span)
		}
	}
	return rest
}

// answer an event, if it asks.
func (s *solver) answer(e api.Event) {
	if e.What != api.Ask {
		return
	}
	same, _ := s.Same(e.A, e.B)
	s.answers = append(s.answers, same)
}
