package below

import (
	"slices"

	"duet/api"
	"duet/graph"
)

// none is in the place of a node where the other one stands alone.
const none = -1

// draft of a node that a Join or a Meet may have; its To are numbers of drafts.
type draft struct {
	api.Node
	spare    int   // how many of its To it can do without; below 0, if there can't be such a node
	neededBy []int // the drafts that have it in their To, once for each time
}

// drafting has a draft for each place that is come to.
type drafting struct {
	a, b    []api.Node
	numbers map[place]int
	places  []place
	drafts  []draft
}

// bound is the Join of both graphs, or their Meet. (If it would have too many nodes, graph.Least says so.)
func bound(a, b []api.Node, meet bool) ([]api.Node, api.Errno) {
	d := drafting{a: a, b: b, numbers: map[place]int{}}
	d.number(place{turned: meet})
	for len(d.drafts) < len(d.places) {
		d.drafts = append(d.drafts, d.draftAt(d.places[len(d.drafts)]))
	}
	d.giveUp()
	if d.drafts[0].spare < 0 {
		return nil, api.ErrNone
	}
	return graph.Least(d.left())
}

// number of a place's draft, which is made later if it is new.
func (d *drafting) number(p place) int {
	number, known := d.numbers[p]
	if !known {
		number = len(d.places)
		d.numbers[p] = number
		d.places = append(d.places, p)
	}
	return number
}

func (d *drafting) draftAt(p place) draft {
	switch {
	case p.b == none:
		return d.alone(d.a[p.a], p.turned, func(to place) place { return place{to.a, none, to.turned} })
	case p.a == none:
		return d.alone(d.b[p.b], p.turned, func(to place) place { return place{none, to.b, to.turned} })
	}
	m, n := d.a[p.a], d.b[p.b]
	switch {
	case m.Kind != n.Kind || m.Sort != n.Sort:
		return draft{spare: -1}
	case m.Kind == api.Offer && !p.turned, m.Kind == api.Pick && p.turned:
		return d.withEither(m, n, p.turned)
	}
	return d.withBoth(m, n, p.turned)
}

// alone is what it is, of Join and of Meet, but there is one draft for each: both count where it is told whether there are too many.
func (d *drafting) alone(n api.Node, turned bool, ofOne func(to place) place) draft {
	out := draft{Node: api.Node{Kind: n.Kind, Sort: n.Sort, Labels: n.Labels}}
	for _, next := range stepsFrom(n, n, turned) {
		out.To = append(out.To, d.number(ofOne(next.to)))
	}
	return out
}

// withEither has the labels of either node; a label too many can't be left out.
func (d *drafting) withEither(m, n api.Node, turned bool) draft {
	labels := slices.Concat(m.Labels, n.Labels)
	slices.Sort(labels)
	labels = slices.Compact(labels)
	if len(labels) > api.MaxLabels {
		return draft{spare: -1}
	}
	out := draft{Node: api.Node{Kind: m.Kind, Labels: labels}}
	for _, label := range labels {
		out.To = append(out.To, d.number(place{behind(m, label), behind(n, label), turned}))
	}
	return out
}

// withBoth has what both nodes have; of labels one at least must be left.
func (d *drafting) withBoth(m, n api.Node, turned bool) draft {
	out := draft{Node: api.Node{Kind: m.Kind, Sort: m.Sort}}
	for _, next := range stepsFrom(m, n, turned) {
		out.To = append(out.To, d.number(next.to))
		if len(m.Labels) > 0 {
			out.Labels = append(out.Labels, next.word)
		}
	}
	if len(m.Labels) > 0 {
		out.spare = len(out.Labels) - 1
	}
	return out
}

// behind a label: what comes next of it, if it is there.
func behind(n api.Node, label string) int {
	if i := slices.Index(n.Labels, label); i >= 0 {
		return n.To[i]
	}
	return none
}

// giveUp takes away what can't be, then what can't do without that, and so on, but nothing more: what only leans on itself, for ever, is there.
func (d *drafting) giveUp() {
	var gone []int
	for k, one := range d.drafts {
		for _, to := range one.To {
			d.drafts[to].neededBy = append(d.drafts[to].neededBy, k)
		}
		if one.spare < 0 {
			gone = append(gone, k)
		}
	}
	for len(gone) > 0 {
		last := len(gone) - 1
		neededBy := d.drafts[gone[last]].neededBy
		gone = gone[:last]
		for _, k := range neededBy {
			d.drafts[k].spare--
			// Further below, it has gone already.
			if d.drafts[k].spare == -1 {
				gone = append(gone, k)
			}
		}
	}
}

// left is the graph of the drafts that are reached from the first one, without those that are given up.
func (d *drafting) left() []api.Node {
	reached := []int{0}
	numbers := map[int]int{0: 0}
	var out []api.Node
	for len(out) < len(reached) {
		one := d.drafts[reached[len(out)]]
		n := api.Node{Kind: one.Kind, Sort: one.Sort}
		for i, to := range one.To {
			if d.drafts[to].spare < 0 {
				continue
			}
			number, known := numbers[to]
			if !known {
				number = len(reached)
				numbers[to] = number
				reached = append(reached, to)
			}
			n.To = append(n.To, number)
			if len(one.Labels) > 0 {
				n.Labels = append(n.Labels, one.Labels[i])
			}
		}
		out = append(out, n)
	}
	return out
}
