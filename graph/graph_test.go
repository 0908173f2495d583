package graph_test

import (
	"math"
	"math/rand"
	"reflect"
	"slices"
	"strings"
	"testing"

	"duet/api"
	"duet/graph"
	"duet/types"
)

func end() api.Node { return api.Node{Kind: api.End} }

func send(sort, to int) api.Node { return api.Node{Kind: api.Send, Sort: sort, To: []int{to}} }

func recv(sort, to int) api.Node { return api.Node{Kind: api.Recv, Sort: sort, To: []int{to}} }

func give(carried, to int) api.Node { return api.Node{Kind: api.Give, To: []int{carried, to}} }

func take(carried, to int) api.Node { return api.Node{Kind: api.Take, To: []int{carried, to}} }

// choice has the labels of a text, with blanks between them.
func choice(kind int, labels string, to ...int) api.Node {
	return api.Node{Kind: kind, Labels: strings.Fields(labels), To: to}
}

// chain of sends, each to the next one; the last one's To is as it is said.
func chain(sends, last int) []api.Node {
	var g []api.Node
	for k := 1; k < sends; k++ {
		g = append(g, send(api.Int, k))
	}
	return append(g, send(api.Int, last))
}

// parsed is for texts of which a test takes it for granted that they are read.
func parsed(t *testing.T, s string) api.Type {
	t.Helper()
	x, f := types.Parse(s)
	if f.Code != api.OK {
		t.Fatalf("Parse(%q): %v", s, f)
	}
	return x
}

// kinds of nodes that small graphs of so many nodes are made of.
func kinds(nodes int) []api.Node {
	out := []api.Node{end()}
	for i := range nodes {
		out = append(out, send(api.Int, i), choice(api.Pick, "a", i))
		for j := range nodes {
			out = append(out, give(i, j), choice(api.Offer, "a b", i, j))
		}
	}
	return out
}

// small is all graphs of so many nodes that are made of few kinds.
func small(nodes int) [][]api.Node {
	out := [][]api.Node{nil}
	for range nodes {
		var longer [][]api.Node
		for _, g := range out {
			for _, n := range kinds(nodes) {
				longer = append(longer, append(slices.Clip(g), n))
			}
		}
		out = longer
	}
	return out
}

// mixed is many graphs of up to so many nodes, always the same ones.
func mixed(count, nodes int) [][]api.Node {
	r := rand.New(rand.NewSource(4))
	var out [][]api.Node
	for range count {
		size := 1 + r.Intn(nodes)
		var g []api.Node
		for range size {
			to := func() int { return r.Intn(size) }
			g = append(g, []api.Node{
				end(), send(api.Int, to()), send(1+r.Intn(2), to()), recv(api.Int, to()), give(to(), to()), take(to(), to()),
				choice(api.Pick, "a b", to(), to()), choice(api.Pick, "a c", to(), to()), choice(api.Offer, "a b", to(), to()), choice(api.Offer, "a b c d e f", to(), to(), to(), to(), to(), to()),
			}[r.Intn(10)])
		}
		out = append(out, g)
	}
	return out
}

// shown tells graphs apart also where they have no text.
func shown(g []api.Node) string {
	s := ""
	for _, n := range g {
		s += "[" + strings.Repeat("k", n.Kind) + strings.Repeat("s", n.Sort) + " " + strings.Join(n.Labels, ",")
		for _, to := range n.To {
			s += " " + strings.Repeat("i", to) + "."
		}
		s += "]"
	}
	return s
}

// differing says of each two nodes of a graph whether they do different things: at first those that differ by themselves, then all that lead to such ones.
func differing(g []api.Node) [][]bool {
	out := make([][]bool, len(g))
	for i := range g {
		out[i] = make([]bool, len(g))
	}
	for again := true; again; {
		again = false
		for i, m := range g {
			for j, n := range g {
				differ := m.Kind != n.Kind || m.Sort != n.Sort || !slices.Equal(m.Labels, n.Labels)
				for k := 0; !differ && k < len(m.To); k++ {
					differ = out[m.To[k]][n.To[k]]
				}
				if differ && !out[i][j] {
					out[i][j], again = true, true
				}
			}
		}
	}
	return out
}

// together has b's nodes behind those of a.
func together(a, b []api.Node) []api.Node {
	out := slices.Clone(a)
	for _, n := range b {
		n.To = slices.Clone(n.To)
		for i := range n.To {
			n.To[i] += len(a)
		}
		out = append(out, n)
	}
	return out
}

// isNumbered says whether all nodes are reached, in the order of their numbers.
func isNumbered(g []api.Node) bool {
	known := 1
	for k, n := range g {
		if k >= known {
			return false
		}
		for _, to := range n.To {
			if to > known {
				return false
			}
			known = max(known, to+1)
		}
	}
	return known == len(g)
}

// wantLeast looks whether h is the least graph of g.
func wantLeast(t *testing.T, g, h []api.Node) {
	t.Helper()
	if graph.Check(h) != api.OK || !isNumbered(h) {
		t.Fatalf("of %s: %s is not numbered as it is reached", shown(g), shown(h))
	}
	differ := differing(together(g, h))
	if differ[0][len(g)] {
		t.Fatalf("of %s: %s does something else", shown(g), shown(h))
	}
	for i := range h {
		for j := range i {
			if !differ[len(g)+i][len(g)+j] {
				t.Fatalf("of %s: %s has two nodes that do the same", shown(g), shown(h))
			}
		}
	}
}

// spoiltNodes are no nodes of a graph of two.
func spoiltNodes() []api.Node {
	return []api.Node{
		{}, {Kind: 8}, {Kind: 9}, {Kind: 10}, {Kind: -1}, {Kind: math.MaxInt}, {Kind: math.MinInt}, {Kind: api.Rec, To: []int{0}}, {Kind: api.Var, To: []int{0}}, {Kind: api.Rec, Labels: []string{"t"}, To: []int{0}}, {Kind: api.Var, Labels: []string{"t"}},
		{Kind: api.End, Sort: 1}, {Kind: api.End, Labels: []string{"a"}}, {Kind: api.End, Labels: []string{""}}, {Kind: api.End, To: []int{0}},
		send(0, 0), send(4, 0), send(-1, 0), send(1, -1), send(1, 2), send(1, math.MaxInt), send(1, math.MinInt), {Kind: api.Send, Sort: 1}, {Kind: api.Send, Sort: 1, To: []int{0, 1}}, {Kind: api.Send, Sort: 1, Labels: []string{"a"}, To: []int{0}},
		recv(0, 0), recv(4, 0), recv(1, -1), recv(1, 2), {Kind: api.Recv, Sort: 1}, {Kind: api.Recv, Sort: 1, To: []int{0, 0}}, {Kind: api.Recv, Sort: 1, Labels: []string{"a"}, To: []int{0}},
		give(2, 0), give(0, 2), give(-1, 0), give(0, -1), {Kind: api.Give}, {Kind: api.Give, To: []int{0}}, {Kind: api.Give, To: []int{0, 0, 0}}, {Kind: api.Give, Sort: 1, To: []int{0, 0}}, {Kind: api.Give, Labels: []string{"a", "b"}, To: []int{0, 0}},
		take(2, 0), take(0, 2), {Kind: api.Take}, {Kind: api.Take, To: []int{0}}, {Kind: api.Take, To: []int{0, 0, 0}}, {Kind: api.Take, Sort: 1, To: []int{0, 0}}, {Kind: api.Take, Labels: []string{"a", "b"}, To: []int{0, 0}},
		choice(api.Pick, ""), choice(api.Pick, "", 0), choice(api.Pick, "a"), choice(api.Pick, "a", 0, 0), choice(api.Pick, "a b", 0), choice(api.Pick, "b a", 0, 0), choice(api.Pick, "a a", 0, 0), choice(api.Pick, "a", 2), choice(api.Pick, "a b", 0, -1),
		choice(api.Pick, "a b c d e f g", 0, 0, 0, 0, 0, 0, 0), choice(api.Pick, "not", 0), choice(api.Pick, "abcdefghi", 0), choice(api.Pick, "A", 0), {Kind: api.Pick, Labels: []string{""}, To: []int{0}}, {Kind: api.Pick, Sort: 1, Labels: []string{"a"}, To: []int{0}},
		choice(api.Offer, ""), choice(api.Offer, "a"), choice(api.Offer, "a", 0, 0), choice(api.Offer, "b a", 0, 0), choice(api.Offer, "a b c d e f", 0, 0, 0, 0, 0, 2), choice(api.Offer, "a b c d e f g", 0, 0, 0, 0, 0, 0, 0), choice(api.Offer, "true", 0), {Kind: api.Offer, Sort: 2, Labels: []string{"a"}, To: []int{0}},
		{Kind: api.End, To: make([]int, 1<<16)}, {Kind: api.Pick, Labels: make([]string, 1<<16), To: make([]int, 1<<16)},
	}
}

type spoiltGraph struct {
	g    []api.Node
	want api.Errno
}

// spoilt holds what is no graph, with what Check says of it.
func spoilt() []spoiltGraph {
	out := []spoiltGraph{
		{nil, api.ErrArg}, {[]api.Node{}, api.ErrArg},
		{chain(201, 0), api.ErrLarge}, {chain(1000, 0), api.ErrLarge}, {chain(201, 201), api.ErrLarge}, {make([]api.Node, 201), api.ErrLarge},
		{make([]api.Node, 200), api.ErrArg}, {chain(200, 200), api.ErrArg}, {chain(1, 1), api.ErrArg},
	}
	for _, n := range spoiltNodes() {
		// Also a node that is never reached must be one.
		out = append(out, spoiltGraph{[]api.Node{n, end()}, api.ErrArg}, spoiltGraph{[]api.Node{end(), n}, api.ErrArg})
	}
	return out
}

func TestP14CheckTakesGraphs(t *testing.T) {
	for i, g := range [][]api.Node{
		{end()}, {send(1, 0)}, {send(2, 0)}, {send(3, 0)}, {recv(1, 0)}, {recv(3, 1), end()}, {give(0, 0)}, {take(1, 0), end()}, {choice(api.Pick, "a", 0)}, {choice(api.Offer, "a b c d e f", 0, 0, 0, 0, 0, 0)},
		{choice(api.Pick, "end rec", 0, 0)}, {choice(api.Offer, "a aa abcdefgh b", 0, 1, 0, 1), end()}, {end(), end()}, {end(), send(1, 0), take(2, 1)},
		{{Kind: api.End, Labels: []string{}, To: []int{}}}, {{Kind: api.Send, Sort: 1, Labels: []string{}, To: []int{0}}},
		chain(200, 0), chain(200, 199), append(chain(199, 199), end()),
	} {
		if e := graph.Check(g); e != api.OK {
			t.Errorf("Check of %d: %d", i, e)
		}
	}
}

func TestP14CheckRefusesOthers(t *testing.T) {
	for i, s := range spoilt() {
		if e := graph.Check(s.g); e != s.want {
			t.Errorf("spoilt %d: %d, want %d", i, e, s.want)
		}
	}
}

func TestP14CallsSayWhatCheckSays(t *testing.T) {
	for i, s := range spoilt() {
		if h, e := graph.Least(s.g); h != nil || e != s.want {
			t.Errorf("Least of %d: %v, %d", i, h, e)
		}
		if x, e := graph.Back(s.g); !reflect.DeepEqual(x, api.Type{}) || e != s.want {
			t.Errorf("Back of %d: %v, %d", i, x, e)
		}
		for _, k := range []int{0, 1, 200, 201, -1} {
			if n, e := graph.Runs(s.g, k); n != "" || e != s.want {
				t.Errorf("Runs of %d: %q, %d", i, n, e)
			}
		}
	}
}

func TestP14CallsSayWhatTypesCheckSays(t *testing.T) {
	fine := api.Type{Kind: api.End}
	loop := api.Type{Kind: api.Rec, Name: "t", Kids: []api.Type{{Kind: api.Var, Name: "t"}}}
	large := fine
	for range api.MaxParts {
		large = api.Type{Kind: api.Send, Sort: 1, Kids: []api.Type{large}}
	}
	for _, x := range []struct {
		t    api.Type
		want api.Errno
	}{{api.Type{}, api.ErrArg}, {api.Type{Kind: api.Var, Name: "t"}, api.ErrName}, {loop, api.ErrType}, {large, api.ErrLarge}} {
		if g, e := graph.Of(x.t); g != nil || e != x.want {
			t.Errorf("Of: %v, %d, want %d", g, e, x.want)
		}
		for _, pair := range [][2]api.Type{{x.t, x.t}, {x.t, fine}, {fine, x.t}} {
			if ok, e := graph.Same(pair[0], pair[1]); ok || e != x.want {
				t.Errorf("Same: %v, %d, want %d", ok, e, x.want)
			}
		}
		if _, e := graph.Same(x.t, api.Type{Kind: 99}); e != x.want {
			t.Errorf("Same: the first one's error is told, not %d", e)
		}
	}
}

func TestP15Of(t *testing.T) {
	for s, want := range map[string][]api.Node{
		"end":                       {end()},
		"rec t.end":                 {end()},
		"!int.end":                  {send(api.Int, 1), end()},
		"?bool.!text.end":           {recv(api.Bool, 1), send(api.Text, 2), end()},
		"rec t.!int.t":              {send(api.Int, 0)},
		"!int.rec t.!int.!int.t":    {send(api.Int, 0)},
		"rec t.rec s.!int.t":        {send(api.Int, 0)},
		"rec t.+{go:!int.t,no:end}": {choice(api.Pick, "go no", 1, 2), send(api.Int, 0), end()},
		// What is carried has its number ahead of what comes next.
		"!{!int.end}.?bool.end":    {give(1, 2), send(api.Int, 3), recv(api.Bool, 3), end()},
		"?{end}.end":               {take(1, 1), end()},
		"rec t.!{t}.t":             {give(0, 0)},
		"!{rec t.!{t}.t}.end":      {give(1, 2), give(1, 1), end()},
		"?{?{end}.end}.?{end}.end": {take(1, 1), take(2, 2), end()},
		// Nodes are numbered as they are reached, not as they stand in the text.
		"&{a:!int.?int.end,b:?bool.end}": {choice(api.Offer, "a b", 1, 2), send(api.Int, 3), recv(api.Bool, 4), recv(api.Int, 4), end()},
		"&{a:end,b:!int.end,c:end}":      {choice(api.Offer, "a b c", 1, 2, 1), end(), send(api.Int, 1)},
		// A Var is that of the innermost Rec of its name.
		"rec t.!int.rec t.?int.t":          {send(api.Int, 1), recv(api.Int, 1)},
		"rec t.!{rec t.!int.t}.t":          {give(1, 0), send(api.Int, 1)},
		"rec t.&{a:rec s.!{t}.s,b:t}":      {choice(api.Offer, "a b", 1, 0), give(0, 1)},
		"rec t.rec s.+{a:s,b:t}":           {choice(api.Pick, "a b", 0, 0)},
		"+{a:rec t.+{a:t},b:rec t.+{a:t}}": {choice(api.Pick, "a b", 1, 1), choice(api.Pick, "a", 1)},
		// The same but for kind, sort or labels.
		"+{a:!int.end,b:!bool.end}":         {choice(api.Pick, "a b", 1, 2), send(api.Int, 3), send(api.Bool, 3), end()},
		"+{a:!int.end,b:?int.end}":          {choice(api.Pick, "a b", 1, 2), send(api.Int, 3), recv(api.Int, 3), end()},
		"!{+{a:end}}.!{&{a:end}}.+{b:end}":  {give(1, 2), choice(api.Pick, "a", 3), give(4, 5), end(), choice(api.Offer, "a", 3), choice(api.Pick, "b", 3)},
		"!{+{a:end,b:end}}.!{+{a:end}}.end": {give(1, 2), choice(api.Pick, "a b", 3, 3), give(4, 3), end(), choice(api.Pick, "a", 3)},
	} {
		g, e := graph.Of(parsed(t, s))
		if e != api.OK || shown(g) != shown(want) {
			t.Errorf("Of(%s) = %v, %d, want %v", s, g, e, want)
		}
	}
}

func TestP15OfTheLargest(t *testing.T) {
	x := parsed(t, strings.Repeat("!int.", 59)+"end")
	if g, e := graph.Of(x); e != api.OK || len(g) != 60 || !isNumbered(g) || g[59].Kind != api.End {
		t.Errorf("of 60 parts: %d nodes, %d", len(g), e)
	}
	x = parsed(t, "rec t."+strings.Repeat("!int.", 58)+"t")
	if g, e := graph.Of(x); e != api.OK || shown(g) != shown([]api.Node{send(api.Int, 0)}) {
		t.Errorf("of a Rec of 60 parts: %d nodes, %d", len(g), e)
	}
	x = parsed(t, "rec t."+strings.Repeat("!int.", 57)+"?int.t")
	if g, e := graph.Of(x); e != api.OK || len(g) != 58 || !slices.Equal(g[57].To, []int{0}) {
		t.Errorf("of a Rec of 60 parts: %d nodes, %d", len(g), e)
	}
}

func TestP15Least(t *testing.T) {
	for i, x := range []struct{ g, want []api.Node }{
		{[]api.Node{end()}, []api.Node{end()}},
		{[]api.Node{end(), send(1, 0)}, []api.Node{end()}},
		{[]api.Node{end(), end(), end()}, []api.Node{end()}},
		{[]api.Node{send(1, 2), end(), recv(1, 1)}, []api.Node{send(1, 1), recv(1, 2), end()}},
		{[]api.Node{give(2, 1), send(1, 3), send(1, 4), end(), end()}, []api.Node{give(1, 1), send(1, 2), end()}},
		{[]api.Node{choice(api.Pick, "a b c", 3, 1, 2), send(1, 3), send(1, 3), end()}, []api.Node{choice(api.Pick, "a b c", 1, 2, 2), end(), send(1, 1)}},
		{[]api.Node{send(1, 1), send(1, 2), send(1, 0)}, []api.Node{send(1, 0)}},
		{[]api.Node{send(1, 1), send(1, 2), recv(1, 1)}, []api.Node{send(1, 1), send(1, 2), recv(1, 1)}},
		{[]api.Node{send(1, 1), recv(1, 2), send(1, 3), recv(1, 0)}, []api.Node{send(1, 1), recv(1, 0)}},
		{[]api.Node{give(1, 0), give(0, 1)}, []api.Node{give(0, 0)}},
		{[]api.Node{give(0, 1), give(1, 2), end()}, []api.Node{give(0, 1), give(1, 2), end()}},
		{[]api.Node{give(0, 1), take(0, 1)}, []api.Node{give(0, 1), take(0, 1)}},
		{[]api.Node{{Kind: api.Send, Sort: 1, Labels: []string{}, To: []int{1}}, {Kind: api.Send, Sort: 1, To: []int{0}}}, []api.Node{send(1, 0)}},
		{chain(200, 0), []api.Node{send(1, 0)}},
		{chain(200, 199), []api.Node{send(1, 0)}},
		{append(chain(199, 0), end()), []api.Node{send(1, 0)}},
		{append(chain(199, 199), end()), append(chain(199, 199), end())},
		{append(chain(199, 199), recv(1, 0)), append(chain(199, 199), recv(1, 0))},
	} {
		h, e := graph.Least(x.g)
		if e != api.OK || shown(h) != shown(x.want) {
			t.Errorf("Least of %d = %v, %d, want %v", i, h, e, x.want)
		}
	}
}

func TestP15LeastOfMany(t *testing.T) {
	many := mixed(2000, 12)
	for nodes := 1; nodes <= 2; nodes++ {
		many = append(many, small(nodes)...)
	}
	many = append(many, mixed(20, 40)...)
	for i, g := range small(3) {
		if i%5 == 0 {
			many = append(many, g)
		}
	}
	for _, g := range many {
		h, e := graph.Least(g)
		if e != api.OK {
			t.Fatalf("Least(%s): %d", shown(g), e)
		}
		wantLeast(t, g, h)
		if again, _ := graph.Least(h); !graph.Equal(again, h) {
			t.Fatalf("Least(%s) is not its own least graph", shown(g))
		}
	}
}

// smallTypes is all of so many parts, with variables s and t, that Check takes.
func smallTypes(parts int) []api.Type {
	var made func(int) []api.Type
	made = func(parts int) []api.Type {
		if parts == 1 {
			return []api.Type{{Kind: api.End}, {Kind: api.Var, Name: "s"}, {Kind: api.Var, Name: "t"}}
		}
		var out []api.Type
		for _, kid := range made(parts - 1) {
			out = append(out, api.Type{Kind: api.Rec, Name: "s", Kids: []api.Type{kid}}, api.Type{Kind: api.Rec, Name: "t", Kids: []api.Type{kid}}, api.Type{Kind: api.Send, Sort: api.Int, Kids: []api.Type{kid}})
		}
		for first := 1; first < parts-1; first++ {
			for _, x := range made(first) {
				for _, y := range made(parts - 1 - first) {
					out = append(out, api.Type{Kind: api.Give, Kids: []api.Type{x, y}})
				}
			}
		}
		return out
	}
	return slices.DeleteFunc(made(parts), func(x api.Type) bool { return types.Check(x) != api.OK })
}

// doSame unfolds both, over and over, until a pair of texts comes back that has been looked at.
func doSame(s, t api.Type, looked map[[2]string]bool) bool {
	s, _ = types.Unfold(s)
	t, _ = types.Unfold(t)
	a, _ := types.Write(s)
	b, _ := types.Write(t)
	if looked[[2]string{a, b}] {
		return true
	}
	looked[[2]string{a, b}] = true
	if s.Kind != t.Kind || s.Sort != t.Sort || !slices.Equal(s.Labels, t.Labels) {
		return false
	}
	for i := range s.Kids {
		if !doSame(s.Kids[i], t.Kids[i], looked) {
			return false
		}
	}
	return true
}

func TestP15SameOfAllSmallOnes(t *testing.T) {
	var all []api.Type
	for parts := 1; parts <= 5; parts++ {
		all = append(all, smallTypes(parts)...)
	}
	counts := map[bool]int{}
	for i, s := range all {
		for j := i % 7; j < len(all); j += 7 {
			x := all[j]
			want := doSame(s, x, map[[2]string]bool{})
			counts[want]++
			if got, e := graph.Same(s, x); e != api.OK || got != want {
				a, _ := types.Write(s)
				b, _ := types.Write(x)
				t.Fatalf("Same(%s, %s) = %v, %d", a, b, got, e)
			}
		}
	}
	if counts[true] < 1000 || counts[false] < 1000 {
		t.Errorf("too few of one kind: %v", counts)
	}
}

func TestP15Same(t *testing.T) {
	for _, x := range []struct {
		s, t string
		want bool
	}{
		{"end", "rec t.end", true}, {"end", "!int.end", false}, {"rec t.!int.t", "!int.rec s.!int.!int.s", true}, {"rec t.!int.t", "rec t.!bool.t", false}, {"rec t.!int.t", "rec t.?int.t", false},
		{"rec t.!int.t", "!int.!int.!int.end", false}, {"rec t.!int.?int.t", "!int.rec t.?int.!int.t", true}, {"rec t.!int.?int.t", "rec t.?int.!int.t", false},
		{"!{end}.end", "?{end}.end", false}, {"!{!int.end}.end", "!{!bool.end}.end", false}, {"rec t.!{t}.t", "!{!{rec s.!{s}.s}.rec t.!{t}.t}.rec u.!{u}.u", true}, {"rec t.!{t}.t", "rec t.!{end}.t", false}, {"!{end}.!int.end", "!{!int.end}.end", false},
		{"+{a:end,b:end}", "+{a:end}", false}, {"+{a:end}", "+{b:end}", false}, {"+{a:end}", "&{a:end}", false}, {"+{a:end,b:!int.end}", "+{a:!int.end,b:end}", false},
		{"rec t.+{a:t,b:end}", "rec t.+{a:rec s.+{a:t,b:end},b:rec t.end}", true}, {"rec t.+{a:t,b:t}", "rec t.+{a:t,b:+{a:t,b:t}}", true},
		{"rec t." + strings.Repeat("!int.", 57) + "t", "rec t." + strings.Repeat("!int.", 58) + "t", true}, {"rec t." + strings.Repeat("!int.", 57) + "t", "rec t." + strings.Repeat("!int.", 57) + "?int.t", false},
	} {
		for _, pair := range [][2]string{{x.s, x.t}, {x.t, x.s}} {
			if got, e := graph.Same(parsed(t, pair[0]), parsed(t, pair[1])); e != api.OK || got != x.want {
				t.Errorf("Same(%s, %s) = %v, %d", pair[0], pair[1], got, e)
			}
		}
	}
}

func TestP15Equal(t *testing.T) {
	all := [][]api.Node{
		nil, {{}}, {end()}, {end(), end()}, {send(1, 0)}, {send(2, 0)}, {send(1, 1)}, {send(1, -1)}, {recv(1, 0)}, {send(1, 1), end()}, {end(), send(1, 1)}, {give(0, 1), end()}, {give(1, 0), end()}, {give(0, 0), end()},
		{choice(api.Pick, "a", 0)}, {choice(api.Pick, "b", 0)}, {choice(api.Offer, "a", 0)}, {choice(api.Pick, "a b", 0, 0)}, {choice(api.Pick, "b a", 0, 0)}, {choice(api.Pick, "a", 0, 0)}, {choice(api.Pick, "a b", 0)}, {{Kind: api.Send, Sort: 1}},
		// They do the same, but are not the same.
		{send(1, 1), send(1, 0)}, {send(1, 1), send(1, 1)}, chain(201, 0), chain(201, 1), {{Kind: 99, Sort: -1}},
	}
	for i, a := range all {
		for j, b := range all {
			if got := graph.Equal(a, b); got != (i == j) {
				t.Errorf("Equal of %d and %d: %v", i, j, got)
			}
		}
	}
	if !graph.Equal(nil, []api.Node{}) || !graph.Equal([]api.Node{end()}, []api.Node{{Kind: api.End, Labels: []string{}, To: []int{}}}) {
		t.Error("lists that have nothing in them are the same, nil or not")
	}
}
