package comply_test

import (
	"math"
	"math/rand"
	"slices"
	"strings"
	"testing"

	"duet/api"
	"duet/below"
	"duet/comply"
	"duet/dual"
	"duet/graph"
)

func choice(kind int, labels string, to ...int) api.Node {
	return api.Node{Kind: kind, Labels: strings.Fields(labels), To: to}
}

func nodeOf(r *rand.Rand, size int) api.Node {
	to := func() int { return r.Intn(size) }
	kinds := []int{api.Pick, api.Offer}
	return []api.Node{
		{Kind: api.End}, {Kind: api.Send, Sort: 1, To: []int{to()}}, {Kind: api.Recv, Sort: 1 + r.Intn(2), To: []int{to()}}, {Kind: api.Give, To: []int{to(), to()}}, {Kind: api.Take, To: []int{to(), to()}},
		choice(kinds[r.Intn(2)], "a", to()), choice(kinds[r.Intn(2)], "a b", to(), to()), choice(kinds[r.Intn(2)], "b c", to(), to()), choice(kinds[r.Intn(2)], "a b c d e f", to(), to(), to(), to(), to(), to()),
	}[r.Intn(9)]
}

// nearly is a node with a label less, another node, or, mostly, itself.
func nearly(r *rand.Rand, n api.Node, size int) api.Node {
	switch {
	case r.Intn(25) == 0:
		return nodeOf(r, size)
	case r.Intn(4) == 0 && len(n.Labels) > 1:
		k := r.Intn(len(n.Labels))
		return api.Node{Kind: n.Kind, Labels: slices.Delete(slices.Clone(n.Labels), k, k+1), To: slices.Delete(slices.Clone(n.To), k, k+1)}
	}
	return n
}

// mixed is many pairs of types, always the same ones: the second one is much like the other end of the first.
func mixed(count, nodes int) [][2]api.Type {
	r := rand.New(rand.NewSource(7))
	var out [][2]api.Type
	for len(out) < count {
		size := 1 + r.Intn(nodes)
		var g, h []api.Node
		for range size {
			g = append(g, nodeOf(r, size))
		}
		other, _ := dual.Graph(g)
		for _, n := range other {
			h = append(h, nearly(r, n, len(other)))
		}
		s, e := graph.Back(g)
		u, f := graph.Back(h)
		if e == api.OK && f == api.OK {
			out = append(out, [2]api.Type{s, u})
		}
	}
	return out
}

// from begins a graph with another node: it changes places with node 0.
func from(g []api.Node, node int) []api.Node {
	out := slices.Clone(g)
	out[0], out[node] = out[node], out[0]
	for i, n := range out {
		out[i].To = slices.Clone(n.To)
		for k, to := range n.To {
			switch to {
			case 0:
				out[i].To[k] = node
			case node:
				out[i].To[k] = 0
			}
		}
	}
	return out
}

// areBelow goes from node to node, not from graph to graph.
func areBelow(a []api.Node, i int, b []api.Node, j int) bool {
	ok, e := below.Graphs(from(a, i), from(b, j))
	return ok && e == api.OK
}

// fits says whether who does m, where something goes out, or nothing more is done, gets on with who does n.
func fits(a []api.Node, m api.Node, b []api.Node, n api.Node) bool {
	switch m.Kind {
	case api.End:
		return n.Kind == api.End
	case api.Send:
		return n.Kind == api.Recv && n.Sort == m.Sort
	case api.Give:
		return n.Kind == api.Take && areBelow(a, m.To[0], b, n.To[0])
	case api.Pick:
		for _, label := range m.Labels {
			if !slices.Contains(n.Labels, label) {
				return false
			}
		}
		return n.Kind == api.Offer
	}
	return false
}

// further is a step, and the nodes behind it.
type further struct {
	word string
	i, j int
}

func furtherFrom(m, n api.Node) []further {
	switch {
	case m.Kind == api.End:
		return nil
	case len(m.Labels) == 0:
		return []further{{".", m.To[len(m.To)-1], n.To[len(n.To)-1]}}
	}
	var out []further
	for _, label := range []string{"a", "b", "c", "d", "e", "f"} {
		i, j := slices.Index(m.Labels, label), slices.Index(n.Labels, label)
		if i >= 0 && j >= 0 {
			out = append(out, further{label, m.To[i], n.To[j]})
		}
	}
	return out
}

// far is more steps than any way has.
const far = math.MaxInt32

// model of two graphs: for each two nodes by how few steps it is come to where they don't fit, and to where both are End.
type model struct {
	a, b       []api.Node
	stuck, end [][]int
}

func modelOf(a, b []api.Node) model {
	m := model{a: a, b: b}
	for i := range a {
		m.stuck, m.end = append(m.stuck, make([]int, len(b))), append(m.end, make([]int, len(b)))
		for j := range b {
			m.stuck[i][j], m.end[i][j] = far, far
			switch fit := fits(a, a[i], b, b[j]) || fits(b, b[j], a, a[i]); {
			case !fit:
				m.stuck[i][j] = 0
			case a[i].Kind == api.End:
				m.end[i][j] = 0
			}
		}
	}
	for m.nearer() {
	}
	return m
}

func (m model) nearer() bool {
	again := false
	for i := range m.a {
		for j := range m.b {
			if m.stuck[i][j] == 0 {
				continue
			}
			for _, f := range furtherFrom(m.a[i], m.b[j]) {
				for _, all := range [][][]int{m.stuck, m.end} {
					if d := all[f.i][f.j] + 1; d < all[i][j] {
						all[i][j], again = d, true
					}
				}
			}
		}
	}
	return again
}

// way goes on by the first step that brings it nearer.
func (m model) way() []string {
	var way []string
	i, j := 0, 0
	for m.stuck[i][j] > 0 {
		steps := furtherFrom(m.a[i], m.b[j])
		nearer := slices.IndexFunc(steps, func(f further) bool { return m.stuck[f.i][f.j] < m.stuck[i][j] })
		way, i, j = append(way, steps[nearer].word), steps[nearer].i, steps[nearer].j
	}
	return way
}

// wantAsModel answers what Ends says, and by how long a way they are stuck (below 0, if they get on).
func wantAsModel(t *testing.T, s, u api.Type) (ends api.Errno, stuck int) {
	t.Helper()
	a, _ := graph.Of(s)
	b, _ := graph.Of(u)
	m := modelOf(a, b)
	ok, e := comply.Do(s, u)
	way, f := comply.Stuck(s, u)
	n, ends := comply.Ends(s, u)
	switch {
	case e != api.OK || ok != (m.stuck[0][0] >= far):
		t.Fatalf("Do(%v, %v) = %v, %d", s, u, ok, e)
	case !ok && (f != api.OK || ends != api.ErrType || n != 0 || !slices.Equal(way, m.way())):
		t.Fatalf("Stuck(%v, %v) = %q, %d, want %q; Ends: %d, %d", s, u, way, f, m.way(), n, ends)
	case !ok:
		return ends, len(way)
	case way != nil || f != api.ErrNone:
		t.Fatalf("Stuck(%v, %v) = %q, %d", s, u, way, f)
	case m.end[0][0] >= far && (n != 0 || ends != api.ErrNone), m.end[0][0] < far && (n != m.end[0][0] || ends != api.OK):
		t.Fatalf("Ends(%v, %v) = %d, %d, want %d", s, u, n, ends, m.end[0][0])
	}
	return ends, -1
}

func TestP21OfMany(t *testing.T) {
	ends, stuck := map[api.Errno]int{}, map[int]int{}
	for _, pair := range append(mixed(6000, 5), mixed(300, 12)...) {
		for _, x := range [][2]api.Type{pair, {pair[1], pair[0]}} {
			e, way := wantAsModel(t, x[0], x[1])
			ends[e]++
			stuck[way]++
		}
	}
	if ends[api.OK] < 500 || ends[api.ErrNone] < 500 || ends[api.ErrType] < 500 || stuck[0] < 300 || stuck[1] < 300 || stuck[2] < 100 || stuck[3] < 30 {
		t.Errorf("too few: %v, %v", ends, stuck)
	}
}

// TestP21OtherEnds: they get on just if the other end of the one is below what the other one does.
func TestP21OtherEnds(t *testing.T) {
	for _, pair := range mixed(3000, 5) {
		s, u := pair[0], pair[1]
		a, _ := graph.Of(s)
		turned, _ := dual.Of(u)
		want, _ := below.Graphs(turned, a)
		if ok, e := comply.Do(s, u); e != api.OK || ok != want {
			t.Fatalf("Do(%v, %v) = %v, %d", s, u, ok, e)
		}
		other, _ := dual.Graph(a)
		x, e := graph.Back(other)
		if e != api.OK {
			continue
		}
		if ok, e := comply.Do(s, x); e != api.OK || !ok {
			t.Fatalf("%v and its other end: %v, %d", s, ok, e)
		}
	}
}
