package below

import (
	"slices"

	"duet/api"
	"duet/ways"
)

// Steps that are no labels.
const (
	toCarried = "^"
	toNext    = "."
)

// place at which a node of a graph a and one of a graph b stand together.
type place struct {
	a, b   int
	turned bool // b's is to be below a's, not a's below b's; where a bound is drafted, it is their Meet, not their Join
}

// step to a place.
type step struct {
	word string
	to   place
}

// stepsFrom where nodes of one kind stand together, in the order in which they are tried. (What Give carries is turned.)
func stepsFrom(m, n api.Node, turned bool) []step {
	switch m.Kind {
	case api.Send, api.Recv:
		return []step{{toNext, place{m.To[0], n.To[0], turned}}}
	case api.Give, api.Take:
		carried := place{m.To[0], n.To[0], turned != (m.Kind == api.Give)}
		return []step{{toCarried, carried}, {toNext, place{m.To[1], n.To[1], turned}}}
	}
	var steps []step
	for i, label := range m.Labels {
		if j := slices.Index(n.Labels, label); j >= 0 {
			steps = append(steps, step{label, place{m.To[i], n.To[j], turned}})
		}
	}
	return steps
}

// firstFailing is the way from a place to where it fails first, by what stands there itself, that the one node is below the other. If there is no such place it does not fail: what is asked of one is asked of all that lie behind it, and of nothing else.
func firstFailing(a, b []api.Node, from place) (way []string, fails bool) {
	s := ways.From(from)
	for k := 0; k < s.Count(); k++ {
		at := s.Place(k)
		m, n := a[at.a], b[at.b]
		if at.turned && failsItself(n, m) || !at.turned && failsItself(m, n) {
			return s.To(k), true
		}
		for _, next := range stepsFrom(m, n, at.turned) {
			s.Step(k, next.word, next.to)
		}
	}
	return nil, false
}

// failsItself does not look at what lies behind.
func failsItself(lower, upper api.Node) bool {
	switch {
	case lower.Kind != upper.Kind || lower.Sort != upper.Sort:
		return true
	case lower.Kind == api.Offer:
		return !hasAll(upper.Labels, lower.Labels)
	}
	return !hasAll(lower.Labels, upper.Labels)
}

func hasAll(labels, wanted []string) bool {
	return !slices.ContainsFunc(wanted, func(label string) bool { return !slices.Contains(labels, label) })
}
