package below_test

import (
	"slices"
	"strings"
	"testing"

	"duet/api"
	"duet/below"
	"duet/dual"
	"duet/graph"
)

// wantBound looks whether a call of two types, in either order, is the graph of a third one; the empty text is for none.
func wantBound(t *testing.T, name string, call func(s, t api.Type) ([]api.Node, api.Errno), s, u, want string) {
	t.Helper()
	for _, pair := range [][2]string{{s, u}, {u, s}} {
		g, e := call(parsed(t, pair[0]), parsed(t, pair[1]))
		if want == "" {
			if g != nil || e != api.ErrNone {
				t.Errorf("%s of %s and %s = %s, %d, want none", name, pair[0], pair[1], written(g), e)
			}
			continue
		}
		of, _ := graph.Of(parsed(t, want))
		if e != api.OK || !graph.Equal(g, of) {
			t.Errorf("%s of %s and %s = %s, %d, want %s", name, pair[0], pair[1], written(g), e, want)
		}
	}
}

func TestP20JoinAndMeet(t *testing.T) {
	for _, x := range []struct{ s, t, join, meet string }{
		{"end", "end", "end", "end"}, {"end", "!int.end", "", ""}, {"!int.end", "!int.end", "!int.end", "!int.end"}, {"!int.end", "?int.end", "", ""}, {"!int.end", "!bool.end", "", ""}, {"?int.end", "?text.end", "", ""}, {"+{a:end}", "&{a:end}", "", ""}, {"!{end}.end", "?{end}.end", "", ""}, {"!{end}.end", "!int.end", "", ""},
		// Choices: of labels of both, or of either one.
		{"+{a:end,b:end}", "+{b:end,c:end}", "+{b:end}", "+{a:end,b:end,c:end}"}, {"&{a:end,b:end}", "&{b:end,c:end}", "&{a:end,b:end,c:end}", "&{b:end}"}, {"+{a:end}", "+{a:end,b:end}", "+{a:end}", "+{a:end,b:end}"}, {"&{a:end}", "&{a:end,b:end}", "&{a:end,b:end}", "&{a:end}"},
		{"+{a:end}", "+{b:end}", "", "+{a:end,b:end}"}, {"&{a:end}", "&{b:end}", "&{a:end,b:end}", ""}, {"+{aa:end,b:end}", "+{a:end,ab:end}", "", "+{a:end,aa:end,ab:end,b:end}"},
		// What comes next of a label that only one has is what it is.
		{"+{a:!int.end,c:?text.end}", "+{b:!{end}.end,c:?text.end}", "+{c:?text.end}", "+{a:!int.end,b:!{end}.end,c:?text.end}"}, {"&{a:rec t.&{a:t,b:end}}", "&{b:rec t.!int.t}", "&{a:rec t.&{a:t,b:end},b:rec t.!int.t}", ""},
		// Of six labels at most.
		{"+{a:end,b:end,c:end}", "+{d:end,e:end,f:end}", "", "+{a:end,b:end,c:end,d:end,e:end,f:end}"}, {"+{a:end,b:end,c:end}", "+{d:end,e:end,f:end,g:end}", "", ""}, {"&{a:end,b:end,c:end,g:end}", "&{d:end,e:end,f:end,g:end}", "", "&{g:end}"}, {"&{a:end,b:end,c:end,f:end}", "&{d:end,e:end,f:end}", "&{a:end,b:end,c:end,d:end,e:end,f:end}", "&{f:end}"}, {"+{a:end,b:end,c:end,d:end,e:end,f:end}", "+{f:end,g:end}", "+{f:end}", ""}, {"+{a:end,b:end,c:end,d:end,e:end,f:end}", "+{a:end,b:end,c:end,d:end,e:end,f:end}", "+{a:end,b:end,c:end,d:end,e:end,f:end}", "+{a:end,b:end,c:end,d:end,e:end,f:end}"},
		// A label that only one side needs goes, if there is nothing for it; one that must stay takes the choice with it.
		{"+{a:!int.end,b:end}", "+{a:!bool.end,b:end}", "+{b:end}", ""}, {"&{a:!int.end,c:end}", "&{a:!bool.end,b:end,c:end}", "", "&{c:end}"}, {"+{a:!int.end}", "+{a:!bool.end,b:end}", "", ""}, {"&{a:!int.end}", "&{a:!bool.end,b:end}", "", ""}, {"+{a:!int.end,b:end,c:?int.end}", "+{a:!bool.end,b:end,c:?bool.end}", "+{b:end}", ""},
		{"+{a:&{a:end,b:end,c:end,d:end},b:end}", "+{a:&{d:end,e:end,f:end,g:end},b:end}", "+{b:end}", "+{a:&{d:end},b:end}"}, {"!int.+{a:end}", "!int.+{b:end}", "", "!int.+{a:end,b:end}"}, {"+{a:+{a:end},b:!int.end}", "+{a:+{b:end},b:!int.end}", "+{b:!int.end}", "+{a:+{a:end,b:end},b:!int.end}"}, {"+{a:+{b:+{c:end}},b:end}", "+{a:+{b:+{d:end}},b:end}", "+{b:end}", "+{a:+{b:+{c:end,d:end}},b:end}"},
		// What comes next, of all kinds.
		{"!int.&{a:end}", "!int.&{b:end}", "!int.&{a:end,b:end}", ""}, {"?bool.&{a:end}", "?bool.&{b:end}", "?bool.&{a:end,b:end}", ""}, {"!{end}.&{a:end}", "!{end}.&{b:end}", "!{end}.&{a:end,b:end}", ""}, {"?{end}.&{a:end}", "?{end}.&{b:end}", "?{end}.&{a:end,b:end}", ""}, {"+{c:&{a:end}}", "+{c:&{b:end}}", "+{c:&{a:end,b:end}}", ""}, {"&{c:+{a:end}}", "&{c:+{b:end}}", "", "&{c:+{a:end,b:end}}"},
		// What is carried: the same of Take, the other one of Give; twice turned it is the same again.
		{"?{&{a:end,b:end}}.end", "?{&{b:end,c:end}}.end", "?{&{a:end,b:end,c:end}}.end", "?{&{b:end}}.end"}, {"!{&{a:end,b:end}}.end", "!{&{b:end,c:end}}.end", "!{&{b:end}}.end", "!{&{a:end,b:end,c:end}}.end"}, {"!{+{a:end}}.end", "!{+{b:end}}.end", "!{+{a:end,b:end}}.end", ""}, {"?{+{a:end}}.end", "?{+{b:end}}.end", "", "?{+{a:end,b:end}}.end"},
		{"!{!{&{a:end,b:end}}.end}.end", "!{!{&{b:end,c:end}}.end}.end", "!{!{&{a:end,b:end,c:end}}.end}.end", "!{!{&{b:end}}.end}.end"}, {"!{?{&{a:end,b:end}}.end}.end", "!{?{&{b:end,c:end}}.end}.end", "!{?{&{b:end}}.end}.end", "!{?{&{a:end,b:end,c:end}}.end}.end"}, {"!{+{a:end}}.&{a:end}", "!{+{b:end}}.&{b:end}", "!{+{a:end,b:end}}.&{a:end,b:end}", ""}, {"!{!int.end}.end", "!{!bool.end}.end", "", ""}, {"?{!int.end}.end", "?{!bool.end}.end", "", ""},
		{"!{&{a:end,b:end}}.&{a:end,b:end}", "!{&{b:end,c:end}}.&{b:end,c:end}", "!{&{b:end}}.&{a:end,b:end,c:end}", "!{&{a:end,b:end,c:end}}.&{b:end}"},
		// For ever.
		{"rec t.!int.t", "!int.rec t.!int.!int.t", "rec t.!int.t", "rec t.!int.t"}, {"rec t.!int.t", "!int.end", "", ""}, {"rec t.+{a:t,b:end}", "rec t.+{a:t,c:end}", "rec t.+{a:t}", "rec t.+{a:t,b:end,c:end}"}, {"rec t.&{a:t,b:end}", "rec t.&{a:t,c:end}", "rec t.&{a:t,b:end,c:end}", "rec t.&{a:t}"}, {"rec t.+{a:t}", "+{a:+{a:end}}", "", ""}, {"rec t.+{a:t,b:end}", "+{a:+{a:end,b:end},b:end}", "+{a:+{b:end},b:end}", ""},
		{"rec t.&{a:t}", "&{a:&{a:&{b:end}}}", "&{a:&{a:&{a:rec s.&{a:s},b:end}}}", ""}, {"rec t.+{a:t,b:!int.t}", "rec t.+{a:t,b:!bool.t}", "rec t.+{a:t}", ""}, {"rec t.+{a:!int.t,b:end}", "rec t.+{a:!int.!int.t,b:end}", "+{b:end}", ""},
		{"rec t.!{t}.&{a:t}", "rec t.!{t}.&{a:t,b:end}", "rec t.!{rec s.!{t}.&{a:s}}.&{a:t,b:end}", "rec s.!{rec t.!{s}.&{a:t,b:end}}.&{a:s}"}, {"rec t.?{t}.&{a:t}", "rec t.?{t}.&{a:t,b:end}", "rec t.?{t}.&{a:t,b:end}", "rec t.?{t}.&{a:t}"},
		{"rec t.&{a:&{b:t}}", "rec t.&{a:&{b:&{a:t}}}", "&{a:&{b:&{a:&{a:rec u.&{b:&{a:&{a:u}}},b:rec s.&{a:&{b:s}}}}}}", ""},
	} {
		wantBound(t, "Join", below.Join, x.s, x.t, x.join)
		wantBound(t, "Meet", below.Meet, x.s, x.t, x.meet)
	}
}

// ofEach is the type of each graph.
func ofEach(t *testing.T, all [][]api.Node) []api.Type {
	t.Helper()
	var out []api.Type
	for _, g := range all {
		x, e := graph.Back(g)
		if e != api.OK {
			t.Fatalf("Back(%v): %d", g, e)
		}
		out = append(out, x)
	}
	return out
}

func areBelow(a, b []api.Node) bool {
	ok, e := below.Graphs(a, b)
	return ok && e == api.OK
}

func TestP20IsTheLeastAboveAndTheGreatestBelow(t *testing.T) {
	all := small()
	every := ofEach(t, all)
	above := table(len(all))
	for i, a := range all {
		for j, b := range all {
			if areBelow(a, b) {
				above[i][j] = 1
			}
		}
	}
	counts := map[api.Errno]int{}
	for i, s := range every {
		for j, u := range every {
			join, e := below.Join(s, u)
			meet, f := below.Meet(s, u)
			counts[e]++
			if e == api.OK && !(areBelow(all[i], join) && areBelow(all[j], join)) || f == api.OK && !(areBelow(meet, all[i]) && areBelow(meet, all[j])) {
				t.Fatalf("%s, %s: Join %s, %d, Meet %s, %d", written(all[i]), written(all[j]), written(join), e, written(meet), f)
			}
			for k, c := range all {
				if above[i][k] == 1 && above[j][k] == 1 && (e != api.OK || !areBelow(join, c)) {
					t.Fatalf("%s, %s: Join %s, %d is not below %s", written(all[i]), written(all[j]), written(join), e, written(c))
				}
				if above[k][i] == 1 && above[k][j] == 1 && (f != api.OK || !areBelow(c, meet)) {
					t.Fatalf("%s, %s: Meet %s, %d is not above %s", written(all[i]), written(all[j]), written(meet), f, written(c))
				}
			}
		}
	}
	if counts[api.OK] < 1000 || counts[api.ErrNone] < 1000 || len(counts) > 2 {
		t.Errorf("too few: %v", counts)
	}
}

// spot is two nodes, or one alone, the other one being -1.
type spot struct {
	i, j int
	meet bool
}

// parts that a node of a Join (or a Meet) has, each with its label, if it has one; wide, if none of them can be left out.
func partsOf(a, b []api.Node, at spot) (labels []string, parts []spot, wide bool) {
	if at.i < 0 {
		n := b[at.j]
		for k, to := range n.To {
			parts = append(parts, spot{-1, to, at.meet != (k == 0 && n.Kind == api.Give)})
		}
		return n.Labels, parts, true
	}
	if at.j < 0 {
		n := a[at.i]
		for k, to := range n.To {
			parts = append(parts, spot{to, -1, at.meet != (k == 0 && n.Kind == api.Give)})
		}
		return n.Labels, parts, true
	}
	m, n := a[at.i], b[at.j]
	if len(m.Labels) == 0 {
		for k := range m.To {
			parts = append(parts, spot{m.To[k], n.To[k], at.meet != (k == 0 && m.Kind == api.Give)})
		}
		return nil, parts, true
	}
	wide = (m.Kind == api.Offer) != at.meet
	for _, label := range []string{"a", "b", "c", "d", "e", "f", "g"} {
		i, j := slices.Index(m.Labels, label), slices.Index(n.Labels, label)
		switch {
		case i >= 0 && j >= 0:
			labels, parts = append(labels, label), append(parts, spot{m.To[i], n.To[j], at.meet})
		case i >= 0 && wide:
			labels, parts = append(labels, label), append(parts, spot{m.To[i], -1, at.meet})
		case j >= 0 && wide:
			labels, parts = append(labels, label), append(parts, spot{-1, n.To[j], at.meet})
		}
	}
	return labels, parts, wide
}

// canBe looks only at so many steps behind a spot, and takes it for granted that all is well further on.
func canBe(a, b []api.Node, at spot, steps int, known map[spot]map[int]bool) bool {
	if at.i < 0 || at.j < 0 || steps == 0 {
		return true
	}
	if ok, asked := known[at][steps]; asked {
		return ok
	}
	ok := a[at.i].Kind == b[at.j].Kind && a[at.i].Sort == b[at.j].Sort
	if ok {
		labels, parts, wide := partsOf(a, b, at)
		left := 0
		for _, part := range parts {
			if canBe(a, b, part, steps-1, known) {
				left++
			}
		}
		ok = len(labels) <= 6 && (left == len(parts) || !wide && left > 0) && (len(a[at.i].Labels) == 0 || left > 0)
	}
	if known[at] == nil {
		known[at] = map[int]bool{}
	}
	known[at][steps] = ok
	return ok
}

// wantedBound is the bound of two least graphs, with a node for each spot.
func wantedBound(a, b []api.Node, meet bool) ([]api.Node, bool) {
	known := map[spot]map[int]bool{}
	steps := 2 * len(a) * len(b)
	first := spot{0, 0, meet}
	if !canBe(a, b, first, steps, known) {
		return nil, false
	}
	var out []api.Node
	reached := []spot{first}
	for len(out) < len(reached) {
		at := reached[len(out)]
		n := b[max(at.j, 0)]
		if at.j < 0 {
			n = a[at.i]
		}
		made := api.Node{Kind: n.Kind, Sort: n.Sort}
		labels, parts, _ := partsOf(a, b, at)
		for k, part := range parts {
			if !canBe(a, b, part, steps, known) {
				continue
			}
			if !slices.Contains(reached, part) {
				reached = append(reached, part)
			}
			made.To = append(made.To, slices.Index(reached, part))
			if len(labels) > 0 {
				made.Labels = append(made.Labels, labels[k])
			}
		}
		out = append(out, made)
	}
	return out, true
}

func TestP20BoundsOfMany(t *testing.T) {
	counts := map[api.Errno]int{}
	for _, pair := range append(mixed(5000, 5), mixed(2000, 12)...) {
		s, e := graph.Back(pair[0])
		u, f := graph.Back(pair[1])
		if e != api.OK || f != api.OK {
			continue
		}
		a, _ := graph.Least(pair[0])
		b, _ := graph.Least(pair[1])
		for k, call := range []func(s, t api.Type) ([]api.Node, api.Errno){below.Join, below.Meet} {
			got, e := call(s, u)
			counts[e]++
			want, ok := wantedBound(a, b, k == 1)
			if !ok {
				if got != nil || e != api.ErrNone {
					t.Fatalf("%s, %s, %d: %v, %d, want none", written(a), written(b), k, got, e)
				}
				continue
			}
			want, wanted := graph.Least(want)
			if e != wanted || !graph.Equal(got, want) {
				t.Fatalf("%s, %s, %d: %v, %d, want %v", written(a), written(b), k, got, e, want)
			}
		}
	}
	if counts[api.OK] < 1000 || counts[api.ErrNone] < 1000 {
		t.Errorf("too few: %v", counts)
	}
}

func TestP20TheOtherWayRoundAtTheOtherEnds(t *testing.T) {
	asked := 0
	for _, pair := range mixed(3000, 4) {
		a, _ := dual.Graph(pair[0])
		b, _ := dual.Graph(pair[1])
		types := []api.Type{}
		for _, g := range [][]api.Node{pair[0], pair[1], a, b} {
			if x, e := graph.Back(g); e == api.OK {
				types = append(types, x)
			}
		}
		if len(types) < 4 {
			continue
		}
		join, e := below.Join(types[0], types[1])
		meet, f := below.Meet(types[2], types[3])
		if e == api.OK && len(join) <= 100 {
			asked++
			join, e = dual.Graph(join)
		}
		if e != f || !graph.Equal(join, meet) {
			t.Fatalf("%v, %v: the other end of the Join %v, %d, the Meet of the other ends %v, %d", pair[0], pair[1], join, e, meet, f)
		}
	}
	if asked < 300 {
		t.Errorf("too few: %d", asked)
	}
}

// offers is a ring of Offers, of which the last one has another label, to End.
func offers(nodes int, other string) string {
	return "rec t." + strings.Repeat("&{a:", nodes-1) + "&{a:t," + other + ":end}" + strings.Repeat("}", nodes-1)
}

// ints is the beginning of a type that sends so many.
func ints(nodes int) string { return strings.Repeat("!int.", nodes) }

// carrier is a ring of a Give or a Take that carries the ring itself, and so many Sends.
func carrier(sign string, sends int) string { return "rec x." + sign + "{x}." + ints(sends) + "x" }

func TestP20TwoHundredNodesAtMost(t *testing.T) {
	for _, x := range []struct {
		name, s, t string
		nodes      int // before it is made least
	}{
		// Pairs of both rings, and both Ends alone; or, where both have a label b, both Ends together too.
		{"Join", offers(11, "b"), offers(18, "c"), 200}, {"Join", offers(11, "b"), offers(18, "b"), 201}, {"Join", "!int." + offers(11, "b"), "!int." + offers(18, "c"), 201}, {"Join", offers(3, "b"), offers(4, "c"), 14}, {"Join", offers(27, "b"), offers(29, "c"), 785}, {"Join", offers(50, "b"), offers(49, "b"), 2453},
		// Of Meet no Ends are left, but both together.
		{"Meet", offers(11, "b"), offers(18, "c"), 198}, {"Meet", "!int." + offers(11, "b"), "!int." + offers(18, "b"), 200}, {"Meet", "!int.!int." + offers(11, "b"), "!int.!int." + offers(18, "b"), 201}, {"Meet", "!int.!int." + offers(11, "b"), "!int.!int." + offers(18, "c"), 200}, {"Meet", "!int.!int.!int." + offers(11, "b"), "!int.!int.!int." + offers(18, "c"), 201},
		// What is carried has nodes of its own: of 7 and 13 nodes there are 91 pairs of each kind.
		{"Join", "!{" + offers(7, "b") + "}." + offers(7, "b"), "!{" + offers(13, "c") + "}." + offers(13, "c"), 1 + 91 + 91 + 2}, {"Join", "?{" + offers(7, "b") + "}." + offers(7, "b"), "?{" + offers(13, "c") + "}." + offers(13, "c"), 1 + 91 + 2},
		{"Join", "!{" + offers(9, "b") + "}." + offers(9, "b"), "!{" + offers(11, "c") + "}." + offers(11, "c"), 1 + 99 + 99 + 2}, {"Meet", "!{" + offers(9, "b") + "}." + offers(9, "b"), "!{" + offers(11, "c") + "}." + offers(11, "c"), 1 + 99 + 99 + 2}, {"Join", "!int.!{" + offers(6, "b") + "}." + offers(6, "b"), "!int.!{" + offers(16, "c") + "}." + offers(16, "c"), 2 + 48 + 48 + 2},
		// What stands alone is one of a Join, and one more of a Meet: both Ends of the rings, and of what is carried.
		{"Join", ints(4) + "!{+{b:end}}." + offers(10, "b"), ints(4) + "!{+{c:end}}." + offers(19, "c"), 6 + 190 + 4}, {"Join", ints(5) + "!{+{b:end}}." + offers(10, "b"), ints(5) + "!{+{c:end}}." + offers(19, "c"), 7 + 190 + 4}, {"Meet", ints(4) + "!{" + offers(10, "b") + "}.+{b:end}", ints(4) + "!{" + offers(19, "c") + "}.+{c:end}", 6 + 190 + 4}, {"Meet", ints(5) + "!{" + offers(10, "b") + "}.+{b:end}", ints(5) + "!{" + offers(19, "c") + "}.+{c:end}", 7 + 190 + 4},
		// It is the same one where they have changed places twice, or never.
		{"Join", ints(4) + "!{!{&{b:end}}.end}." + offers(10, "b"), ints(4) + "!{!{&{c:end}}.end}." + offers(19, "c"), 8 + 190 + 2}, {"Join", ints(5) + "!{!{&{b:end}}.end}." + offers(10, "b"), ints(5) + "!{!{&{c:end}}.end}." + offers(19, "c"), 9 + 190 + 2}, {"Join", ints(1) + "?{&{b:end}}." + offers(13, "b"), ints(1) + "?{&{c:end}}." + offers(15, "c"), 3 + 195 + 2},
		// They change places also within what stands alone, of Give but not of Take.
		{"Join", ints(1) + "&{a:" + carrier("!", 49) + "}", ints(1) + "&{b:" + carrier("!", 48) + "}", 2 + 2*50 + 2*49}, {"Join", ints(1) + "&{a:" + carrier("!", 49) + "}", ints(1) + "&{b:" + carrier("!", 48) + ",c:end}", 2 + 2*50 + 2*49 + 1},
		{"Join", "&{a:" + carrier("!", 49) + "}", "&{b:" + carrier("?", 53) + "}", 1 + 2*50 + 54}, {"Meet", "+{a:" + carrier("?", 49) + "}", "+{b:" + carrier("!", 53) + "}", 1 + 50 + 2*54},
	} {
		a, e := graph.Of(parsed(t, x.s))
		b, f := graph.Of(parsed(t, x.t))
		if e != api.OK || f != api.OK {
			t.Fatalf("Of(%s), Of(%s): %d, %d", x.s, x.t, e, f)
		}
		var want []api.Node
		// It takes long where there are many more.
		if x.nodes <= 201 {
			want, _ = wantedBound(a, b, x.name == "Meet")
			if len(want) != x.nodes {
				t.Errorf("%s of %s and %s has %d nodes, not %d", x.name, x.s, x.t, len(want), x.nodes)
			}
		}
		call := below.Join
		if x.name == "Meet" {
			call = below.Meet
		}
		g, e := call(parsed(t, x.s), parsed(t, x.t))
		if x.nodes > 200 {
			if g != nil || e != api.ErrLarge {
				t.Errorf("%s of %s and %s: %d nodes, %d, want ErrLarge", x.name, x.s, x.t, len(g), e)
			}
			continue
		}
		want, _ = graph.Least(want)
		if e != api.OK || !graph.Equal(g, want) {
			t.Errorf("%s of %s and %s: %d nodes, %d, want %d", x.name, x.s, x.t, len(g), e, len(want))
		}
	}
}

// What is none is not too large.
func TestP20NoneGoesAheadOfTooLarge(t *testing.T) {
	long := func(last string) string {
		return "rec t." + strings.Repeat("&{a:", 26) + "&{a:t," + last + "}" + strings.Repeat("}", 26)
	}
	other := "rec t." + strings.Repeat("&{a:", 28) + "&{a:t,b:!int.end}" + strings.Repeat("}", 28)
	for _, x := range []struct {
		s    string
		want api.Errno
	}{{long("b:end"), api.ErrNone}, {long("b:!int.end"), api.ErrLarge}} {
		if g, e := below.Join(parsed(t, x.s), parsed(t, other)); g != nil || e != x.want {
			t.Errorf("Join of %s: %d, want %d", x.s, e, x.want)
		}
	}
	// What goes for lack of a Join does not count.
	s := "+{a:" + long("b:end") + ",b:end}"
	u := "+{a:" + other + ",b:end}"
	if g, e := below.Join(parsed(t, s), parsed(t, u)); e != api.OK || written(g) != "+{b:end}" {
		t.Errorf("Join = %s, %d", written(g), e)
	}
}

// Two rings that are none first where both are at their ends: it is given up all the way back, also within what is carried.
func TestP20NoneFarAway(t *testing.T) {
	a := "rec t." + strings.Repeat("&{a:", 26) + "&{a:t,b:end}" + strings.Repeat("}", 26)
	b := "rec t." + strings.Repeat("&{a:", 28) + "&{a:t,b:!int.end}" + strings.Repeat("}", 28)
	wantBound(t, "Join", below.Join, a, b, "")
	wantBound(t, "Meet", below.Meet, "!{"+a+"}.end", "!{"+b+"}.end", "")
	wantBound(t, "Join", below.Join, "+{a:"+a+",b:"+"end}", "+{a:"+b+",b:end}", "+{b:end}")
	if g, e := below.Meet(parsed(t, a), parsed(t, b)); g != nil || e != api.ErrLarge {
		t.Errorf("Meet: %d nodes, %d", len(g), e)
	}
}

func TestP20OfItself(t *testing.T) {
	for _, s := range []string{"end", strings.Repeat("!int.", 59) + "end", "rec t.!{t}.t", "rec t.!{t}." + strings.Repeat("!int.", 56) + "t", "+{a:end,b:end,c:end,d:end,e:end,f:end}", offers(50, "b")} {
		g, _ := graph.Of(parsed(t, s))
		join, e := below.Join(parsed(t, s), parsed(t, s))
		meet, f := below.Meet(parsed(t, s), parsed(t, s))
		if e != api.OK || f != api.OK || !graph.Equal(join, g) || !graph.Equal(meet, g) {
			t.Errorf("of %s twice: %v, %d; %v, %d", s, join, e, meet, f)
		}
	}
}
