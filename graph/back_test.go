package graph_test

import (
	"reflect"
	"slices"
	"strings"
	"testing"

	"duet/api"
	"duet/graph"
	"duet/types"
)

func TestP16Back(t *testing.T) {
	for i, x := range []struct {
		g    []api.Node
		want string
	}{
		{[]api.Node{end()}, "end"},
		{[]api.Node{send(1, 0)}, "rec a.!int.a"},
		{[]api.Node{send(1, 1), end()}, "!int.end"},
		{[]api.Node{send(3, 1), recv(2, 0)}, "rec a.!text.?bool.a"},
		{[]api.Node{send(1, 1), recv(1, 1)}, "!int.rec b.?int.b"},
		{[]api.Node{give(1, 2), send(1, 3), recv(2, 3), end()}, "!{!int.end}.?bool.end"},
		{[]api.Node{take(0, 0)}, "rec a.?{a}.a"},
		{[]api.Node{choice(api.Pick, "go no", 1, 2), send(1, 0), end()}, "rec a.+{go:!int.a,no:end}"},
		// The numbers are the graph's own: it is not made least.
		{[]api.Node{send(1, 1), send(1, 0)}, "rec a.!int.!int.a"},
		{[]api.Node{send(1, 2), end(), send(1, 2)}, "!int.rec c.!int.c"},
		// Of one node several types may come, each with a Rec if it is come back to from within just there.
		{[]api.Node{give(1, 1), send(1, 1)}, "!{rec b.!int.b}.rec b.!int.b"},
		{[]api.Node{choice(api.Offer, "a b", 1, 2), send(1, 2), recv(1, 1)}, "&{a:rec b.!int.?int.b,b:rec c.?int.!int.c}"},
		{[]api.Node{choice(api.Offer, "a b", 1, 0), give(0, 1)}, "rec a.&{a:rec b.!{a}.b,b:a}"},
		{[]api.Node{give(1, 2), give(2, 1), give(1, 2)}, "!{rec b.!{rec c.!{b}.c}.b}.rec c.!{rec b.!{c}.b}.c"},
		{[]api.Node{give(1, 2), send(1, 2), give(1, 3), end()}, "!{rec b.!int.!{b}.end}.rec c.!{!int.c}.end"},
		{[]api.Node{give(1, 2), choice(api.Pick, "a b", 2, 1), send(1, 1)}, "!{rec b.+{a:!int.b,b:b}}.rec c.!int.rec b.+{a:c,b:b}"},
	} {
		back, e := graph.Back(x.g)
		if s, _ := types.Write(back); e != api.OK || s != x.want {
			t.Errorf("Back of %d = %s, %d, want %s", i, s, e, x.want)
		}
	}
}

func TestP16BackNames(t *testing.T) {
	for k, want := range map[int]string{1: "b", 25: "z", 26: "aa", 27: "ab", 51: "az", 52: "ba", 77: "bz", 78: "ca", 181: "fz", 182: "ga", 199: "gr"} {
		g := make([]api.Node, 200)
		for i := range g {
			g[i] = send(1, k)
		}
		back, e := graph.Back(g)
		if s, _ := types.Write(back); e != api.OK || s != "!int.rec "+want+".!int."+want {
			t.Errorf("Back to node %d = %s, %d", k, s, e)
		}
	}
	back, e := graph.Back(append(chain(29, 0), end()))
	if s, _ := types.Write(back); e != api.OK || s != "rec a."+strings.Repeat("!int.", 29)+"a" {
		t.Errorf("Back = %s, %d", s, e)
	}
}

func TestP16BackIsOfSixtyPartsAtMost(t *testing.T) {
	deep := make([]api.Node, 200)
	for k := range deep {
		deep[k] = give((k+1)%200, (k+1)%200)
	}
	wide := make([]api.Node, 200)
	for k := range wide {
		wide[k] = choice(api.Pick, "a b c d e f", (k+1)%200, (k+2)%200, (k+3)%200, (k+4)%200, (k+5)%200, k)
	}
	for i, x := range []struct {
		g    []api.Node
		want int
	}{
		{append(chain(59, 59), end()), 60},
		{append(chain(60, 60), end()), 0},
		{append(chain(199, 199), end()), 0},
		// The Rec and the Var are parts.
		{chain(58, 0), 60},
		{chain(59, 0), 0},
		{chain(58, 57), 60},
		{chain(59, 58), 0},
		{chain(60, 59), 0},
		{chain(200, 0), 0},
		// What is come to on several ways counts on each.
		{append([]api.Node{give(1, 1)}, together([]api.Node{end()}, append(chain(28, 28), end()))[1:]...), 59},
		{append([]api.Node{give(1, 1)}, together([]api.Node{end()}, append(chain(29, 29), end()))[1:]...), 0},
		{[]api.Node{give(1, 1), give(2, 2), give(3, 3), give(4, 4), send(1, 5), end()}, 47},
		{[]api.Node{give(1, 1), give(2, 2), give(3, 3), give(4, 4), give(5, 5), end()}, 0},
		{deep, 0},
		{wide, 0},
		// What is never come to does not count.
		{append([]api.Node{end()}, deep[1:]...), 1},
	} {
		back, e := graph.Back(x.g)
		if x.want == 0 {
			if !reflect.DeepEqual(back, api.Type{}) || e != api.ErrLarge {
				t.Errorf("Back of %d: %d, want ErrLarge", i, e)
			}
			continue
		}
		if n, f := types.Size(back); e != api.OK || f != api.OK || n != x.want {
			t.Errorf("Back of %d has %d parts, %d, want %d", i, n, e, x.want)
		}
	}
}

func hasVar(t api.Type, name string) bool {
	return t.Kind == api.Var && t.Name == name || slices.ContainsFunc(t.Kids, func(kid api.Type) bool { return hasVar(kid, name) })
}

// backFrom looks for Vars in what it has made, and at all of the way; it is for graphs that lead to few parts.
func backFrom(g []api.Node, way []int) api.Type {
	node, ahead := way[len(way)-1], way[:len(way)-1]
	name := string(rune('a' + node))
	if slices.Contains(ahead, node) {
		return api.Type{Kind: api.Var, Name: name}
	}
	out := api.Type{Kind: g[node].Kind, Sort: g[node].Sort, Labels: g[node].Labels}
	for _, to := range g[node].To {
		out.Kids = append(out.Kids, backFrom(g, append(slices.Clone(way), to)))
	}
	if hasVar(out, name) {
		return api.Type{Kind: api.Rec, Name: name, Kids: []api.Type{out}}
	}
	return out
}

func TestP16BackOfAllSmallOnes(t *testing.T) {
	many := mixed(2000, 5)
	for nodes := 1; nodes <= 3; nodes++ {
		many = append(many, small(nodes)...)
	}
	counts := map[api.Errno]int{}
	for _, g := range many {
		want := backFrom(g, []int{0})
		back, e := graph.Back(g)
		counts[e]++
		if f := types.Check(want); e != f {
			t.Fatalf("Back(%s): %d, want %d", shown(g), e, f)
		}
		if e != api.OK {
			continue
		}
		s, _ := types.Write(back)
		if w, _ := types.Write(want); s != w {
			t.Fatalf("Back(%s) = %s, want %s", shown(g), s, w)
		}
		// It does the same.
		of, _ := graph.Of(back)
		if least, _ := graph.Least(g); !graph.Equal(of, least) {
			t.Fatalf("Back(%s) = %s does something else", shown(g), s)
		}
	}
	if counts[api.OK] == 0 || counts[api.ErrLarge] == 0 {
		t.Errorf("too few kinds: %v", counts)
	}
}

func TestP16BackOfTypes(t *testing.T) {
	for parts := 1; parts <= 6; parts++ {
		for _, x := range smallTypes(parts) {
			g, _ := graph.Of(x)
			back, e := graph.Back(g)
			if same, f := graph.Same(x, back); e != api.OK || f != api.OK || !same {
				s, _ := types.Write(x)
				t.Fatalf("Back of %s: %v, %d, %d", s, back, e, f)
			}
		}
	}
}
