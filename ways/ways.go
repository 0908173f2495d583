// Package ways: the first of the shortest ways to each place that may be come to. It has no promises of its own: the packages that look for such ways share it.
package ways

import "slices"

// Search comes to each place once. Where its arrivals are gone on from in order, by steps in the order in which they are tried, each place is come to on the first of the shortest ways.
type Search[P comparable] struct {
	known    map[P]struct{}
	arrivals []arrival[P]
}

// arrival at a place, by the last step of a way.
type arrival[P comparable] struct {
	place P
	word  string // of the step
	from  int    // the number of the arrival that the step went from
}

// From makes a search that has come to one place, where ways begin.
func From[P comparable](place P) *Search[P] {
	return &Search[P]{known: map[P]struct{}{place: {}}, arrivals: []arrival[P]{{place: place}}}
}

// Count says at how many places it has arrived.
func (s *Search[P]) Count() int { return len(s.arrivals) }

// Place of the arrival k, from 0 on.
func (s *Search[P]) Place(k int) P { return s.arrivals[k].place }

// Step from the arrival k to a place, which is one more arrival if it is new.
func (s *Search[P]) Step(k int, word string, to P) {
	if _, known := s.known[to]; known {
		return
	}
	s.known[to] = struct{}{}
	s.arrivals = append(s.arrivals, arrival[P]{to, word, k})
}

// To the arrival k: the words of the steps.
func (s *Search[P]) To(k int) []string {
	var way []string
	for ; k > 0; k = s.arrivals[k].from {
		way = append(way, s.arrivals[k].word)
	}
	slices.Reverse(way)
	return way
}
