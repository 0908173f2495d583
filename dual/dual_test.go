package dual_test

import (
	"math"
	"math/rand"
	"slices"
	"strings"
	"testing"

	"duet/api"
	"duet/dual"
	"duet/graph"
	"duet/types"
)

func end() api.Node { return api.Node{Kind: api.End} }

func send(sort, to int) api.Node { return api.Node{Kind: api.Send, Sort: sort, To: []int{to}} }

func recv(sort, to int) api.Node { return api.Node{Kind: api.Recv, Sort: sort, To: []int{to}} }

func give(carried, to int) api.Node { return api.Node{Kind: api.Give, To: []int{carried, to}} }

func take(carried, to int) api.Node { return api.Node{Kind: api.Take, To: []int{carried, to}} }

// choice has the labels of a text, with blanks between them.
func choice(kind int, labels string, to ...int) api.Node {
	return api.Node{Kind: kind, Labels: strings.Fields(labels), To: to}
}

// chain of nodes, each made with the number of the next one; the last one's next one is as it is said.
func chain(nodes, last int, made func(next int) api.Node) []api.Node {
	var g []api.Node
	for k := 1; k < nodes; k++ {
		g = append(g, made(k))
	}
	return append(g, made(last))
}

func sendOn(next int) api.Node { return send(api.Int, next) }

func recvOn(next int) api.Node { return recv(api.Int, next) }

// parsed is for texts of which a test takes it for granted that they are read.
func parsed(t *testing.T, s string) api.Type {
	t.Helper()
	x, f := types.Parse(s)
	if f.Code != api.OK {
		t.Fatalf("Parse(%q): %v", s, f)
	}
	return x
}

// mixed is many graphs of up to so many nodes, always the same ones.
func mixed(count, nodes int) [][]api.Node {
	r := rand.New(rand.NewSource(5))
	var out [][]api.Node
	for range count {
		size := 1 + r.Intn(nodes)
		var g []api.Node
		for range size {
			to := func() int { return r.Intn(size) }
			g = append(g, []api.Node{
				end(), send(1+r.Intn(2), to()), recv(1+r.Intn(2), to()), give(to(), to()), take(to(), to()), give(to(), to()), take(to(), to()),
				choice(api.Pick, "a b", to(), to()), choice(api.Offer, "a b", to(), to()), choice(api.Pick, "a b c d e f", to(), to(), to(), to(), to(), to()),
			}[r.Intn(10)])
		}
		out = append(out, g)
	}
	return out
}

// turnsOf is each kind with that of the other end, written out.
func turnsOf(kind int) int {
	return map[int]int{api.End: api.End, api.Send: api.Recv, api.Recv: api.Send, api.Give: api.Take, api.Take: api.Give, api.Pick: api.Offer, api.Offer: api.Pick}[kind]
}

// failing says of each node of g and each one of h whether it fails that they do the same (or, if turned, what both ends do): at first those that fail by themselves, then all that lead to such ones. What is carried is asked by carriedFails.
func failing(g, h []api.Node, turned bool, carriedFails [][]bool) [][]bool {
	out := make([][]bool, len(g))
	for i := range g {
		out[i] = make([]bool, len(h))
	}
	for again := true; again; {
		again = false
		for i, m := range g {
			for j, n := range h {
				if !out[i][j] && failsNow(m, n, turned, out, carriedFails) {
					out[i][j], again = true, true
				}
			}
		}
	}
	return out
}

func failsNow(m, n api.Node, turned bool, next, carried [][]bool) bool {
	kind := m.Kind
	if turned {
		kind = turnsOf(kind)
	}
	if kind != n.Kind || m.Sort != n.Sort || !slices.Equal(m.Labels, n.Labels) {
		return true
	}
	for k := range m.To {
		fails := next
		if k == 0 && (m.Kind == api.Give || m.Kind == api.Take) && carried != nil {
			fails = carried
		}
		if fails[m.To[k]][n.To[k]] {
			return true
		}
	}
	return false
}

func isOtherEnd(g, h []api.Node) bool {
	return !failing(g, h, true, failing(g, h, false, nil))[0][0]
}

func TestP17Kind(t *testing.T) {
	for _, x := range [][2]int{{api.Send, api.Recv}, {api.Give, api.Take}, {api.Pick, api.Offer}} {
		if a, b := dual.Kind(x[0]), dual.Kind(x[1]); a != x[1] || b != x[0] {
			t.Errorf("of %v: %d and %d", x, a, b)
		}
	}
	for _, k := range []int{api.End, api.Rec, api.Var, 0, 10, 11, 12, 13, 14, -1, -2, -7, 256 + 2, 1<<32 + 2, math.MaxInt, math.MinInt} {
		if got := dual.Kind(k); got != k {
			t.Errorf("of %d: %d", k, got)
		}
	}
}

func TestP17Of(t *testing.T) {
	for s, want := range map[string][]api.Node{
		"end":                       {end()},
		"rec t.end":                 {end()},
		"!int.end":                  {recv(api.Int, 1), end()},
		"?bool.!text.end":           {send(api.Bool, 1), recv(api.Text, 2), end()},
		"rec t.!int.?int.t":         {recv(api.Int, 1), send(api.Int, 0)},
		"!int.rec t.!int.!int.t":    {recv(api.Int, 0)},
		"rec t.+{go:!int.t,no:end}": {choice(api.Offer, "go no", 1, 2), recv(api.Int, 0), end()},
		"&{a:+{b:end},c:!bool.end}": {choice(api.Pick, "a c", 1, 2), choice(api.Offer, "b", 3), recv(api.Bool, 3), end()},
		// What is carried is as it is, and so is all in it.
		"!{!int.end}.?bool.end":            {take(1, 2), send(api.Int, 3), send(api.Bool, 3), end()},
		"?{!int.?int.+{a:end}}.end":        {give(1, 2), send(api.Int, 3), end(), recv(api.Int, 4), choice(api.Pick, "a", 2)},
		"!{!{?int.end}.!int.end}.!int.end": {take(1, 2), give(2, 3), recv(api.Int, 4), send(api.Int, 4), end()},
		"rec t.!{t}.end":                   {take(1, 2), give(1, 2), end()},
		"rec t.!{t}.t":                     {take(1, 0), give(1, 1)},
		"rec t.?{t}.!int.t":                {give(1, 2), take(1, 3), recv(api.Int, 0), send(api.Int, 1)},
		"rec t.!{end}.t":                   {take(1, 0), end()},
		// One node that comes next and is carried becomes two, two nodes that end up alike become one.
		"!{!int.end}.!int.end": {take(1, 2), send(api.Int, 3), recv(api.Int, 3), end()},
		"!{?int.end}.!int.end": {take(1, 1), recv(api.Int, 2), end()},
	} {
		g, e := dual.Of(parsed(t, s))
		if e != api.OK || !graph.Equal(g, want) {
			t.Errorf("Of(%s) = %v, %d, want %v", s, g, e, want)
		}
	}
}

func TestP17OfTheLargest(t *testing.T) {
	g, e := dual.Of(parsed(t, strings.Repeat("!int.", 59)+"end"))
	if want := append(chain(59, 59, recvOn), end()); e != api.OK || !graph.Equal(g, want) {
		t.Errorf("of 60 parts: %d nodes, %d", len(g), e)
	}
	// It carries itself: all of its 57 nodes are needed turned and as they are.
	g, e = dual.Of(parsed(t, "rec t.!{t}."+strings.Repeat("!int.", 56)+"t"))
	if e != api.OK || len(g) != 114 || g[0].Kind != api.Take {
		t.Errorf("of a Rec of 60 parts: %d nodes, %d", len(g), e)
	}
}

func TestP17Graph(t *testing.T) {
	for i, x := range []struct{ g, want []api.Node }{
		{[]api.Node{end()}, []api.Node{end()}},
		{[]api.Node{end(), send(1, 0)}, []api.Node{end()}},
		{[]api.Node{send(1, 1), send(1, 0)}, []api.Node{recv(1, 0)}},
		{[]api.Node{send(3, 2), end(), recv(2, 1)}, []api.Node{recv(3, 1), send(2, 2), end()}},
		{[]api.Node{give(0, 0)}, []api.Node{take(1, 0), give(1, 1)}},
		{[]api.Node{take(0, 0)}, []api.Node{give(1, 0), take(1, 1)}},
		{[]api.Node{take(1, 0), give(1, 1)}, []api.Node{give(0, 0)}},
		{[]api.Node{give(1, 0), take(1, 1)}, []api.Node{take(0, 0)}},
		{[]api.Node{give(1, 0), take(0, 1)}, []api.Node{take(1, 0), take(2, 1), give(1, 2)}},
		{[]api.Node{choice(api.Pick, "a b c d e f", 0, 0, 0, 0, 0, 0)}, []api.Node{choice(api.Offer, "a b c d e f", 0, 0, 0, 0, 0, 0)}},
		{[]api.Node{choice(api.Offer, "a b", 2, 1), send(1, 0), recv(1, 0)}, []api.Node{choice(api.Pick, "a b", 1, 2), send(1, 0), recv(1, 0)}},
		// Of a choice no label's node is one that is carried.
		{[]api.Node{choice(api.Pick, "a b", 1, 1), send(1, 2), end()}, []api.Node{choice(api.Offer, "a b", 1, 1), recv(1, 2), end()}},
		{[]api.Node{{Kind: api.Send, Sort: 1, Labels: []string{}, To: []int{1}}, {Kind: api.End, Labels: []string{}, To: []int{}}}, []api.Node{recv(1, 1), end()}},
	} {
		h, e := dual.Graph(x.g)
		if e != api.OK || !graph.Equal(h, x.want) {
			t.Errorf("Graph of %d = %v, %d, want %v", i, h, e, x.want)
		}
	}
}

func TestP17GraphOfTheLargest(t *testing.T) {
	g := append(chain(99, 99, sendOn), end())
	want := append(chain(99, 99, recvOn), end())
	if h, e := dual.Graph(g); e != api.OK || !graph.Equal(h, want) {
		t.Errorf("of 100 nodes: %d nodes, %d", len(h), e)
	}
	// Node 0 carries itself: each node is needed turned and as it is.
	g = chain(100, 0, sendOn)
	g[0] = give(0, 1)
	h, e := dual.Graph(g)
	if e != api.OK || len(h) != 200 || !isOtherEnd(g, h) {
		t.Errorf("of 100 nodes that carry themselves: %d nodes, %d", len(h), e)
	}
	if h, e = dual.Graph(h); h != nil || e != api.ErrLarge {
		t.Errorf("of 200 nodes: %d nodes, %d", len(h), e)
	}
}

func TestP17GraphRefusesOthers(t *testing.T) {
	spoilt := append(chain(149, 0, sendOn), api.Node{})
	for i, x := range []struct {
		g    []api.Node
		want api.Errno
	}{
		{nil, api.ErrArg}, {[]api.Node{}, api.ErrArg}, {[]api.Node{{}}, api.ErrArg}, {[]api.Node{{Kind: api.Rec, To: []int{0}}}, api.ErrArg}, {[]api.Node{end(), {Kind: api.Var}}, api.ErrArg},
		{[]api.Node{send(0, 0)}, api.ErrArg}, {[]api.Node{send(1, 1)}, api.ErrArg}, {[]api.Node{send(1, -1)}, api.ErrArg}, {[]api.Node{recv(1, math.MaxInt)}, api.ErrArg}, {[]api.Node{{Kind: api.Give}}, api.ErrArg}, {[]api.Node{{Kind: api.Take, To: []int{0}}}, api.ErrArg}, {[]api.Node{give(1, 0)}, api.ErrArg},
		{[]api.Node{choice(api.Pick, "b a", 0, 0)}, api.ErrArg}, {[]api.Node{choice(api.Offer, "")}, api.ErrArg}, {[]api.Node{choice(api.Pick, "a", 0, 0)}, api.ErrArg}, {[]api.Node{{Kind: math.MinInt}}, api.ErrArg},
		// Twice as many nodes as there are must not make a To right.
		{chain(50, 50, sendOn), api.ErrArg}, {chain(50, 99, sendOn), api.ErrArg},
		{chain(101, 0, sendOn), api.ErrLarge}, {chain(200, 0, sendOn), api.ErrLarge}, {append([]api.Node{end()}, chain(100, 0, sendOn)...), api.ErrLarge}, {chain(201, 0, sendOn), api.ErrLarge}, {make([]api.Node, 201), api.ErrLarge},
		// What Check says goes ahead of more than 100 nodes.
		{spoilt, api.ErrArg}, {make([]api.Node, 101), api.ErrArg}, {make([]api.Node, 200), api.ErrArg}, {chain(101, 101, sendOn), api.ErrArg},
	} {
		if h, e := dual.Graph(x.g); h != nil || e != x.want {
			t.Errorf("Graph of %d: %v, %d, want %d", i, h, e, x.want)
		}
	}
}

func TestP17GraphOfMany(t *testing.T) {
	grown := 0
	for _, g := range append(mixed(2000, 8), mixed(40, 40)...) {
		h, e := dual.Graph(g)
		if e != api.OK || !isOtherEnd(g, h) {
			t.Fatalf("of %v: %v, %d", g, h, e)
		}
		least, _ := graph.Least(g)
		if again, _ := graph.Least(h); !graph.Equal(again, h) {
			t.Fatalf("of %v: %v is not the least", g, h)
		}
		if back, e := dual.Graph(h); e != api.OK || !graph.Equal(back, least) {
			t.Fatalf("the other end's other end of %v: %v, %d", g, back, e)
		}
		if same, _ := dual.Graph(least); !graph.Equal(same, h) {
			t.Fatalf("of the least graph of %v: %v, want %v", g, same, h)
		}
		if len(h) > len(least) {
			grown++
		}
	}
	if grown < 100 {
		t.Errorf("too few of which a node is needed twice: %d", grown)
	}
}

func TestP17Are(t *testing.T) {
	for _, x := range []struct {
		s, t string
		want bool
	}{
		{"end", "end", true}, {"end", "rec t.end", true}, {"end", "!int.end", false}, {"!int.end", "?int.end", true}, {"!int.end", "!int.end", false}, {"!int.end", "?bool.end", false}, {"!int.end", "?int.?int.end", false}, {"!int.!bool.end", "?bool.?int.end", false},
		{"rec t.!int.t", "?int.rec t.?int.?int.t", true}, {"rec t.!int.?int.t", "rec t.?int.!int.t", true}, {"rec t.!int.?int.t", "rec t.!int.?int.t", false}, {"rec t.!int.t", "?int.?int.end", false},
		{"!{!int.end}.?bool.end", "?{!int.end}.!bool.end", true}, {"!{!int.end}.?bool.end", "?{?int.end}.!bool.end", false}, {"!{!int.end}.end", "!{!int.end}.end", false}, {"!{?{!int.end}.end}.end", "?{?{!int.end}.end}.end", true}, {"!{?{!int.end}.end}.end", "?{!{!int.end}.end}.end", false}, {"!{rec t.!int.t}.end", "?{!int.rec t.!int.!int.t}.end", true},
		{"rec t.!{t}.end", "?{rec t.!{t}.end}.end", true}, {"rec t.!{t}.end", "rec t.?{t}.end", false}, {"rec t.!{t}.t", "rec s.?{rec t.!{t}.t}.s", true}, {"rec t.!{t}.t", "rec t.?{t}.t", false}, {"rec t.!{t}.t", "rec s.?{!{rec t.!{t}.t}.s}.s", false},
		{"+{a:end,b:end}", "&{a:end,b:end}", true}, {"+{a:end,b:end}", "&{a:end}", false}, {"+{a:end}", "&{a:end,b:end}", false}, {"+{a:end}", "&{b:end}", false}, {"+{a:end}", "+{a:end}", false}, {"+{a:!int.end,b:end}", "&{a:?int.end,b:end}", true}, {"+{a:!int.end,b:end}", "&{a:end,b:?int.end}", false}, {"+{a:!int.end,b:end}", "&{a:!int.end,b:end}", false},
		{"rec t.+{a:t,b:end}", "rec t.&{a:t,b:end}", true}, {"rec t.+{a:t,b:end}", "&{a:rec s.&{a:s,b:end},b:end}", true}, {"rec t.+{a:t,b:end}", "rec t.&{a:+{a:t,b:end},b:end}", false},
	} {
		for _, pair := range [][2]string{{x.s, x.t}, {x.t, x.s}} {
			if got, e := dual.Are(parsed(t, pair[0]), parsed(t, pair[1])); e != api.OK || got != x.want {
				t.Errorf("Are(%s, %s) = %v, %d", pair[0], pair[1], got, e)
			}
		}
	}
}

func TestP17AreOfMany(t *testing.T) {
	asked := 0
	for _, g := range mixed(2000, 5) {
		h, _ := dual.Graph(g)
		s, e := graph.Back(g)
		u, f := graph.Back(h)
		if e != api.OK || f != api.OK {
			continue
		}
		asked++
		if of, e := dual.Of(s); e != api.OK || !graph.Equal(of, h) {
			t.Fatalf("Of(%v) = %v, %d, want %v", s, of, e, h)
		}
		if ok, e := dual.Are(s, u); e != api.OK || !ok {
			t.Fatalf("Are(%v, %v) = %v, %d", s, u, ok, e)
		}
		if ok, e := dual.Are(u, s); e != api.OK || !ok {
			t.Fatalf("Are(%v, %v) = %v, %d", u, s, ok, e)
		}
		// Nothing is its own other end, unless it is End.
		if ok, e := dual.Are(s, s); e != api.OK || ok != (s.Kind == api.End) {
			t.Fatalf("Are(%v, the same) = %v, %d", s, ok, e)
		}
	}
	if asked < 500 {
		t.Errorf("too few: %d", asked)
	}
}

func TestP17CallsSayWhatTypesCheckSays(t *testing.T) {
	fine := api.Type{Kind: api.End}
	loop := api.Type{Kind: api.Rec, Name: "t", Kids: []api.Type{{Kind: api.Var, Name: "t"}}}
	large := fine
	for range api.MaxParts {
		large = api.Type{Kind: api.Send, Sort: 1, Kids: []api.Type{large}}
	}
	endless := api.Type{Kind: api.Send, Sort: 1, Kids: make([]api.Type, 1)}
	endless.Kids[0] = endless
	for _, x := range []struct {
		t    api.Type
		want api.Errno
	}{{api.Type{}, api.ErrArg}, {api.Type{Kind: api.Give}, api.ErrArg}, {api.Type{Kind: api.Var, Name: "t"}, api.ErrName}, {loop, api.ErrType}, {large, api.ErrLarge}, {endless, api.ErrLarge}} {
		if g, e := dual.Of(x.t); g != nil || e != x.want {
			t.Errorf("Of: %v, %d, want %d", g, e, x.want)
		}
		for _, pair := range [][2]api.Type{{x.t, x.t}, {x.t, fine}, {fine, x.t}} {
			if ok, e := dual.Are(pair[0], pair[1]); ok || e != x.want {
				t.Errorf("Are: %v, %d, want %d", ok, e, x.want)
			}
		}
		if _, e := dual.Are(x.t, api.Type{Kind: 99}); e != x.want {
			t.Errorf("Are: the first one's error is told, not %d", e)
		}
	}
}
