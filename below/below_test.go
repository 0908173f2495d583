package below_test

import (
	"math"
	"math/rand"
	"slices"
	"strings"
	"testing"

	"duet/api"
	"duet/below"
	"duet/dual"
	"duet/graph"
	"duet/types"
)

func end() api.Node { return api.Node{Kind: api.End} }

func send(sort, to int) api.Node { return api.Node{Kind: api.Send, Sort: sort, To: []int{to}} }

func recv(sort, to int) api.Node { return api.Node{Kind: api.Recv, Sort: sort, To: []int{to}} }

func give(carried, to int) api.Node { return api.Node{Kind: api.Give, To: []int{carried, to}} }

func take(carried, to int) api.Node { return api.Node{Kind: api.Take, To: []int{carried, to}} }

// choice has the labels of a text, with blanks between them.
func choice(kind int, labels string, to ...int) api.Node {
	return api.Node{Kind: kind, Labels: strings.Fields(labels), To: to}
}

// ring of sends, each to the next one, the last one to the first.
func ring(nodes int) []api.Node {
	var g []api.Node
	for k := range nodes {
		g = append(g, send(api.Int, (k+1)%nodes))
	}
	return g
}

// parsed is for texts of which a test takes it for granted that they are read.
func parsed(t *testing.T, s string) api.Type {
	t.Helper()
	x, f := types.Parse(s)
	if f.Code != api.OK {
		t.Fatalf("Parse(%q): %v", s, f)
	}
	return x
}

// written is for graphs, some of which have no text.
func written(g []api.Node) string {
	x, e := graph.Back(g)
	if e != api.OK {
		return "(none)"
	}
	s, _ := types.Write(x)
	return s
}

// kinds of nodes that small graphs of so many nodes are made of.
func kinds(nodes int) []api.Node {
	out := []api.Node{end()}
	for i := range nodes {
		out = append(out, send(api.Int, i), choice(api.Pick, "a", i), choice(api.Offer, "a", i), choice(api.Offer, "b", i))
		for j := range nodes {
			out = append(out, give(i, j), take(i, j), choice(api.Pick, "a b", i, j), choice(api.Offer, "a b", i, j))
		}
	}
	return out
}

// small is the least graphs of up to two nodes that are made of few kinds, each once.
func small() [][]api.Node {
	var out [][]api.Node
	add := func(g []api.Node) {
		least, _ := graph.Least(g)
		if !slices.ContainsFunc(out, func(other []api.Node) bool { return graph.Equal(least, other) }) {
			out = append(out, least)
		}
	}
	for _, n := range kinds(1) {
		add([]api.Node{n})
	}
	for _, m := range kinds(2) {
		for _, n := range kinds(2) {
			add([]api.Node{m, n})
		}
	}
	return out
}

func nodeOf(r *rand.Rand, size int) api.Node {
	to := func() int { return r.Intn(size) }
	choices := []int{api.Pick, api.Offer}
	return []api.Node{
		end(), send(api.Int, to()), recv(1+r.Intn(2), to()), give(to(), to()), take(to(), to()),
		choice(choices[r.Intn(2)], "a", to()), choice(choices[r.Intn(2)], "a b", to(), to()), choice(choices[r.Intn(2)], "b c", to(), to()), choice(choices[r.Intn(2)], "a b c d e f", to(), to(), to(), to(), to(), to()), choice(choices[r.Intn(2)], "b g", to(), to()),
	}[r.Intn(10)]
}

// mixed is many pairs of graphs of up to so many nodes, always the same ones: the second one is often much like the first.
func mixed(count, nodes int) [][2][]api.Node {
	r := rand.New(rand.NewSource(6))
	var out [][2][]api.Node
	for range count {
		size := 1 + r.Intn(nodes)
		var a, b []api.Node
		for range size {
			n := nodeOf(r, size)
			a = append(a, n)
			switch r.Intn(6) {
			case 0:
				n = nodeOf(r, size)
			case 1, 2:
				n = withLessLabels(n)
			}
			b = append(b, n)
		}
		pair := [2][]api.Node{a, b}
		if r.Intn(2) == 0 {
			pair = [2][]api.Node{b, a}
		}
		out = append(out, pair)
	}
	return out
}

func withLessLabels(n api.Node) api.Node {
	if len(n.Labels) > 1 {
		n.Labels, n.To = n.Labels[1:], n.To[1:]
	}
	return n
}

// together has b's nodes behind those of a.
func together(a, b []api.Node) []api.Node {
	out := slices.Clone(a)
	for _, n := range b {
		n.To = slices.Clone(n.To)
		for i := range n.To {
			n.To[i] += len(a)
		}
		out = append(out, n)
	}
	return out
}

// table has a number for each two nodes of a graph.
func table(nodes int) [][]int {
	out := make([][]int, nodes)
	for i := range out {
		out[i] = make([]int, nodes)
	}
	return out
}

// isWrong says whether m can't be below n by what stands there.
func isWrong(m, n api.Node) bool {
	less, more := m.Labels, n.Labels
	if m.Kind == api.Pick {
		less, more = more, less
	}
	for _, label := range less {
		if !slices.Contains(more, label) {
			return true
		}
	}
	return m.Kind != n.Kind || m.Sort != n.Sort
}

// further is a step, and the nodes behind it, of which the first is to be below the second.
type further struct {
	word      string
	low, high int
}

func furtherFrom(m, n api.Node) []further {
	switch m.Kind {
	case api.End:
		return nil
	case api.Send, api.Recv:
		return []further{{".", m.To[0], n.To[0]}}
	case api.Give:
		return []further{{"^", n.To[0], m.To[0]}, {".", m.To[1], n.To[1]}}
	case api.Take:
		return []further{{"^", m.To[0], n.To[0]}, {".", m.To[1], n.To[1]}}
	}
	var out []further
	for _, label := range []string{"a", "b", "c", "d", "e", "f", "g"} {
		i, j := slices.Index(m.Labels, label), slices.Index(n.Labels, label)
		if i >= 0 && j >= 0 {
			out = append(out, further{label, m.To[i], n.To[j]})
		}
	}
	return out
}

// far is more steps than any way has.
const far = math.MaxInt32

// distances says for each two nodes by how few steps it is come to where it fails that the first is below the second: far, if it never is.
func distances(g []api.Node) [][]int {
	out := table(len(g))
	for i, m := range g {
		for j, n := range g {
			out[i][j] = far
			if isWrong(m, n) {
				out[i][j] = 0
			}
		}
	}
	for again := true; again; {
		again = false
		for i, m := range g {
			for j, n := range g {
				if out[i][j] == 0 {
					continue
				}
				for _, f := range furtherFrom(m, n) {
					if d := out[f.low][f.high] + 1; d < out[i][j] {
						out[i][j], again = d, true
					}
				}
			}
		}
	}
	return out
}

func isBelow(a, b []api.Node) bool { return distances(together(a, b))[0][len(a)] >= far }

func TestP18Is(t *testing.T) {
	for _, x := range []struct {
		s, t         string
		want, turned bool
	}{
		{"end", "end", true, true}, {"end", "rec t.end", true, true}, {"end", "!int.end", false, false}, {"!int.end", "?int.end", false, false}, {"!int.end", "!bool.end", false, false}, {"?text.end", "?bool.end", false, false}, {"!int.end", "!int.!int.end", false, false}, {"!int.end", "!int.end", true, true}, {"?text.end", "?text.end", true, true},
		{"!{end}.end", "?{end}.end", false, false}, {"+{a:end}", "&{a:end}", false, false}, {"!{end}.end", "!int.end", false, false}, {"+{a:end}", "end", false, false},
		// Pick: each label of t is one of s.
		{"+{a:end,b:end}", "+{a:end}", true, false}, {"+{a:end,b:end}", "+{b:end}", true, false}, {"+{a:end}", "+{b:end}", false, false}, {"+{a:end,b:end}", "+{b:end,c:end}", false, false}, {"+{a:end,b:end,c:end,d:end,e:end,f:end}", "+{c:end,f:end}", true, false}, {"+{a:end,b:!int.end}", "+{a:end}", true, false}, {"+{a:end,b:!int.end}", "+{b:end}", false, false},
		// Offer: each label of s is one of t.
		{"&{a:end}", "&{a:end,b:end}", true, false}, {"&{b:end}", "&{a:end,b:end}", true, false}, {"&{a:end}", "&{b:end}", false, false}, {"&{a:end,b:end}", "&{b:end,c:end}", false, false}, {"&{c:end,f:end}", "&{a:end,b:end,c:end,d:end,e:end,f:end}", true, false}, {"&{a:end}", "&{a:end,b:!int.end}", true, false}, {"&{a:!int.end}", "&{a:end,b:!int.end}", false, false},
		// What comes next is below what comes next, of all kinds.
		{"!int.+{a:end,b:end}", "!int.+{a:end}", true, false}, {"?int.+{a:end,b:end}", "?int.+{a:end}", true, false}, {"!{end}.+{a:end,b:end}", "!{end}.+{a:end}", true, false}, {"?{end}.+{a:end,b:end}", "?{end}.+{a:end}", true, false}, {"+{a:+{a:end,b:end}}", "+{a:+{a:end}}", true, false}, {"&{a:+{a:end,b:end}}", "&{a:+{a:end}}", true, false},
		{"!int.&{a:end}", "!int.&{a:end,b:end}", true, false}, {"+{a:&{a:end},b:end}", "+{a:&{a:end,b:end}}", true, false}, {"+{a:&{a:end}}", "+{a:&{a:end,b:end},b:end}", false, false}, {"&{a:+{a:end,b:end}}", "&{a:+{a:end},b:end}", true, false},
		// What is carried is below of Take, above of Give, and turned twice it is below again.
		{"?{+{a:end,b:end}}.end", "?{+{a:end}}.end", true, false}, {"?{&{a:end}}.end", "?{&{a:end,b:end}}.end", true, false}, {"!{+{a:end}}.end", "!{+{a:end,b:end}}.end", true, false}, {"!{&{a:end,b:end}}.end", "!{&{a:end}}.end", true, false},
		{"!{!{+{a:end,b:end}}.end}.end", "!{!{+{a:end}}.end}.end", true, false}, {"?{?{+{a:end,b:end}}.end}.end", "?{?{+{a:end}}.end}.end", true, false}, {"!{?{+{a:end}}.end}.end", "!{?{+{a:end,b:end}}.end}.end", true, false}, {"?{!{+{a:end}}.end}.end", "?{!{+{a:end,b:end}}.end}.end", true, false}, {"!{!{!{+{a:end}}.end}.end}.end", "!{!{!{+{a:end,b:end}}.end}.end}.end", true, false}, {"!{!int.+{a:end}}.end", "!{!int.+{a:end,b:end}}.end", true, false},
		{"!{+{a:end}}.+{a:end}", "!{+{a:end,b:end}}.+{a:end,b:end}", false, false}, {"!{+{a:end}}.+{a:end,b:end}", "!{+{a:end,b:end}}.+{a:end}", true, false}, {"?{+{a:end,b:end}}.+{a:end,b:end}", "?{+{a:end}}.+{a:end}", true, false}, {"?{+{a:end,b:end}}.+{a:end}", "?{+{a:end}}.+{a:end,b:end}", false, false},
		// For ever: it is so unless it fails somewhere.
		{"rec t.!int.t", "!int.rec t.!int.!int.t", true, true}, {"rec t.!int.t", "!int.!int.end", false, false}, {"rec t.+{a:t,b:end}", "rec t.+{a:t}", true, false}, {"rec t.+{a:t,b:end}", "+{a:+{a:+{b:end}},b:end}", true, false}, {"rec t.&{a:t}", "rec t.&{a:t,b:end}", true, false}, {"rec t.&{a:t,b:end}", "&{a:rec t.&{a:t}}", false, true}, {"rec t.?{t}.t", "rec t.?{?{t}.t}.t", true, true}, {"rec t.!{t}.end", "!{!{rec t.!{t}.end}.end}.end", true, true},
		{"rec t.?{t}.+{a:t,b:end}", "rec t.?{t}.+{a:t}", true, false}, {"rec t.!{t}.+{a:t,b:end}", "rec t.!{t}.+{a:t}", false, false}, {"rec t.!int.!int.+{a:t,b:t}", "rec t.!int.!int.+{a:t}", true, false}, {"rec t.!int.!int.+{a:t,b:t}", "rec t.!int.+{a:t}", false, false},
	} {
		for _, y := range []struct {
			s, t string
			want bool
		}{{x.s, x.t, x.want}, {x.t, x.s, x.turned}} {
			s, u := parsed(t, y.s), parsed(t, y.t)
			if got, e := below.Is(s, u); e != api.OK || got != y.want {
				t.Errorf("Is(%s, %s) = %v, %d", y.s, y.t, got, e)
			}
			a, _ := graph.Of(s)
			b, _ := graph.Of(u)
			if got, e := below.Graphs(a, b); e != api.OK || got != y.want {
				t.Errorf("Graphs(%s, %s) = %v, %d", y.s, y.t, got, e)
			}
		}
	}
}

func TestP18IsAnOrder(t *testing.T) {
	all := small()
	is := table(len(all))
	for i, a := range all {
		for j, b := range all {
			ok, e := below.Graphs(a, b)
			if e != api.OK || ok != isBelow(a, b) {
				t.Fatalf("Graphs(%s, %s) = %v, %d", written(a), written(b), ok, e)
			}
			if ok {
				is[i][j] = 1
			}
		}
	}
	apart := 0
	for i, a := range all {
		if is[i][i] == 0 {
			t.Fatalf("%s is not below itself", written(a))
		}
		for j, b := range all {
			if i == j || is[i][j] == 0 {
				continue
			}
			apart++
			if is[j][i] == 1 {
				t.Fatalf("%s and %s are below each other", written(a), written(b))
			}
			for k, c := range all {
				if is[j][k] > is[i][k] {
					t.Fatalf("%s is below %s, and that below %s", written(a), written(b), written(c))
				}
			}
		}
	}
	if apart < 300 {
		t.Errorf("too few: %d", apart)
	}
}

func TestP18TheOtherWayRoundAtTheOtherEnds(t *testing.T) {
	counts := map[bool]int{}
	for _, pair := range append(mixed(4000, 5), mixed(60, 30)...) {
		a, b := pair[0], pair[1]
		ok, e := below.Graphs(a, b)
		if e != api.OK || ok != isBelow(a, b) {
			t.Fatalf("Graphs(%v, %v) = %v, %d", a, b, ok, e)
		}
		counts[ok]++
		c, _ := dual.Graph(b)
		d, _ := dual.Graph(a)
		if again, e := below.Graphs(c, d); e != api.OK || again != ok {
			t.Fatalf("Graphs(%v, %v) = %v, but %v at the other ends", a, b, ok, again)
		}
		s, e := graph.Back(a)
		u, f := graph.Back(b)
		if e != api.OK || f != api.OK {
			continue
		}
		if again, e := below.Is(s, u); e != api.OK || again != ok {
			t.Fatalf("Is(%v, %v) = %v, %d", s, u, again, e)
		}
	}
	if counts[true] < 300 || counts[false] < 300 {
		t.Errorf("too few: %v", counts)
	}
}

func TestP18Graphs(t *testing.T) {
	spoilt := ring(200)
	spoilt[199].To[0] = 200
	broken := ring(199)
	broken[198] = recv(api.Int, 0)
	carrying, other := make([]api.Node, 200), make([]api.Node, 199)
	for k := range carrying {
		carrying[k] = give((k+7)%200, (k+1)%200)
	}
	for k := range other {
		other[k] = give((k+5)%199, (k+1)%199)
	}
	for i, x := range []struct {
		a, b []api.Node
		want bool
		e    api.Errno
	}{
		// They need not be least, nor numbered as they are reached.
		{[]api.Node{end(), send(1, 0)}, []api.Node{end()}, true, api.OK}, {[]api.Node{send(1, 2), recv(1, 0), send(1, 0)}, ring(7), true, api.OK},
		{ring(199), ring(200), true, api.OK}, {broken, ring(200), false, api.OK}, {ring(200), broken, false, api.OK}, {carrying, other, true, api.OK}, {other, carrying, true, api.OK},
		{nil, ring(1), false, api.ErrArg}, {ring(1), nil, false, api.ErrArg}, {[]api.Node{}, ring(1), false, api.ErrArg}, {ring(201), ring(1), false, api.ErrLarge}, {ring(1), ring(201), false, api.ErrLarge}, {spoilt, ring(1), false, api.ErrArg}, {ring(1), spoilt, false, api.ErrArg},
		// The first one's error is told.
		{ring(201), nil, false, api.ErrLarge}, {nil, ring(201), false, api.ErrArg}, {spoilt, ring(201), false, api.ErrArg},
		{[]api.Node{{}}, ring(1), false, api.ErrArg}, {ring(1), []api.Node{{Kind: api.Rec, To: []int{0}}}, false, api.ErrArg}, {ring(1), []api.Node{send(4, 0)}, false, api.ErrArg}, {ring(1), []api.Node{choice(api.Pick, "b a", 0, 0)}, false, api.ErrArg}, {[]api.Node{send(1, math.MinInt)}, ring(1), false, api.ErrArg}, {[]api.Node{send(1, math.MaxInt)}, ring(1), false, api.ErrArg},
	} {
		if got, e := below.Graphs(x.a, x.b); got != x.want || e != x.e {
			t.Errorf("Graphs of %d: %v, %d", i, got, e)
		}
	}
}

func TestNodes(t *testing.T) {
	for _, pair := range mixed(600, 5) {
		a, b := pair[0], pair[1]
		all := distances(together(a, b))
		for i := range a {
			for j := range b {
				if ok, e := below.Nodes(a, i, b, j); e != api.OK || ok != (all[i][len(a)+j] >= far) {
					t.Fatalf("Nodes(%v, %d, %v, %d) = %v, %d", a, i, b, j, ok, e)
				}
			}
		}
	}
	for _, x := range []struct {
		a    []api.Node
		m    int
		b    []api.Node
		n    int
		want api.Errno
	}{
		{ring(3), -1, ring(3), 0, api.ErrArg}, {ring(3), 3, ring(3), 0, api.ErrArg}, {ring(3), 0, ring(3), -1, api.ErrArg}, {ring(3), 0, ring(3), 3, api.ErrArg}, {ring(3), 3, ring(4), 3, api.ErrArg}, {ring(3), math.MinInt, ring(3), math.MaxInt, api.ErrArg},
		{ring(201), 201, ring(3), 0, api.ErrLarge}, {ring(3), -1, ring(201), 0, api.ErrLarge}, {nil, 0, ring(201), 0, api.ErrArg},
	} {
		if ok, e := below.Nodes(x.a, x.m, x.b, x.n); ok || e != x.want {
			t.Errorf("%d and %d of graphs of %d and %d: %v, %d", x.m, x.n, len(x.a), len(x.b), ok, e)
		}
	}
}

func TestCallsSayWhatTypesCheckSays(t *testing.T) {
	fine := api.Type{Kind: api.End}
	loop := api.Type{Kind: api.Rec, Name: "t", Kids: []api.Type{{Kind: api.Var, Name: "t"}}}
	large := fine
	for range api.MaxParts {
		large = api.Type{Kind: api.Send, Sort: 1, Kids: []api.Type{large}}
	}
	endless := api.Type{Kind: api.Send, Sort: 1, Kids: make([]api.Type, 1)}
	endless.Kids[0] = endless
	for _, x := range []struct {
		t    api.Type
		want api.Errno
	}{{api.Type{}, api.ErrArg}, {api.Type{Kind: api.Give}, api.ErrArg}, {api.Type{Kind: api.Var, Name: "t"}, api.ErrName}, {loop, api.ErrType}, {large, api.ErrLarge}, {endless, api.ErrLarge}} {
		for _, pair := range [][2]api.Type{{x.t, x.t}, {x.t, fine}, {fine, x.t}, {x.t, {Kind: 99, Sort: 99}}} {
			if ok, e := below.Is(pair[0], pair[1]); ok || e != x.want {
				t.Errorf("Is: %v, %d, want %d", ok, e, x.want)
			}
			if way, e := below.Why(pair[0], pair[1]); way != nil || e != x.want {
				t.Errorf("Why: %v, %d, want %d", way, e, x.want)
			}
			if g, e := below.Join(pair[0], pair[1]); g != nil || e != x.want {
				t.Errorf("Join: %v, %d, want %d", g, e, x.want)
			}
			if g, e := below.Meet(pair[0], pair[1]); g != nil || e != x.want {
				t.Errorf("Meet: %v, %d, want %d", g, e, x.want)
			}
		}
	}
}
