package comply

import (
	"slices"

	"duet/api"
	"duet/below"
	"duet/dual"
	"duet/ways"
)

// toNext is the step that is no label.
const toNext = "."

// outcome of what both ends do.
type outcome struct {
	stuck bool     // there is a place where they don't get on
	ended bool     // if there is none: there is one where both are End
	way   []string // the first of the shortest ways to such a place
}

// place at which one end is at a node of a graph a, the other one at a node of a graph b.
type place struct{ a, b int }

// step to a place.
type step struct {
	word string
	to   place
}

// talk goes through all places that both ends come to, by least graphs. One where they don't get on ends it: what lies behind is never come to, and nothing else is asked any more.
func talk(a, b []api.Node) outcome {
	var out outcome
	s := ways.From(place{})
	for k := 0; k < s.Count(); k++ {
		at := s.Place(k)
		if !getOn(a, b, at) {
			return outcome{stuck: true, way: s.To(k)}
		}
		m, n := a[at.a], b[at.b]
		// A least graph has one End at most: there is one such place, which is come to once.
		if m.Kind == api.End {
			out = outcome{ended: true, way: s.To(k)}
		}
		for _, next := range stepsFrom(m, n) {
			s.Step(k, next.word, next.to)
		}
	}
	return out
}

// getOn does not look at what comes next.
func getOn(a, b []api.Node, at place) bool {
	m, n := a[at.a], b[at.b]
	if n.Kind != dual.Kind(m.Kind) || n.Sort != m.Sort {
		return false
	}
	switch m.Kind {
	case api.Give:
		return isBelow(a, m.To[0], b, n.To[0])
	case api.Take:
		return isBelow(b, n.To[0], a, m.To[0])
	case api.Pick:
		return hasAll(n.Labels, m.Labels)
	case api.Offer:
		return hasAll(m.Labels, n.Labels)
	}
	return true
}

// stepsFrom where both get on, in order. (Those labels that both have are just those that may be picked.)
func stepsFrom(m, n api.Node) []step {
	switch m.Kind {
	case api.Send, api.Recv:
		return []step{{toNext, place{m.To[0], n.To[0]}}}
	case api.Give, api.Take:
		return []step{{toNext, place{m.To[1], n.To[1]}}}
	}
	var steps []step
	for i, label := range m.Labels {
		if j := slices.Index(n.Labels, label); j >= 0 {
			steps = append(steps, step{label, place{m.To[i], n.To[j]}})
		}
	}
	return steps
}

func isBelow(given []api.Node, m int, taken []api.Node, n int) bool {
	ok, e := below.Nodes(given, m, taken, n)
	return ok && e == api.OK
}

func hasAll(labels, wanted []string) bool {
	return !slices.ContainsFunc(wanted, func(label string) bool { return !slices.Contains(labels, label) })
}
