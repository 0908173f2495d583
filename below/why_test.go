package below_test

import (
	"slices"
	"strings"
	"testing"

	"duet/api"
	"duet/below"
	"duet/graph"
)

func TestP19Why(t *testing.T) {
	for _, x := range []struct{ s, t, want string }{
		// Outermost, by kind, sort or labels.
		{"end", "!int.end", ""}, {"!int.end", "?int.end", ""}, {"!int.end", "!bool.end", ""}, {"?int.end", "?text.end", ""}, {"+{a:end}", "&{a:end}", ""}, {"+{a:end}", "+{a:end,b:end}", ""}, {"&{a:end,b:end}", "&{a:end}", ""}, {"&{a:end}", "&{b:end}", ""}, {"!{end}.end", "?{end}.end", ""},
		// It fails outermost though something fails further in too.
		{"+{a:!int.end}", "+{a:!bool.end,b:end}", ""},
		{"!int.&{a:end,b:end}", "!int.&{a:end}", "."}, {"?int.!int.end", "?int.end", "."}, {"!{end}.!int.end", "!{end}.end", "."}, {"?{end}.!int.end", "?{end}.end", "."}, {"!{!int.end}.end", "!{end}.end", "^"}, {"?{!int.end}.end", "?{end}.end", "^"},
		{"+{a:end,b:!int.end}", "+{b:end}", "b"}, {"&{b:!int.end}", "&{a:end,b:end}", "b"}, {"+{a:!int.!int.end}", "+{a:!int.end}", "a ."},
		// What only one has is no step, and does not fail.
		{"+{a:!int.end,b:!int.end,c:!int.end}", "+{b:!int.end,c:end}", "c"}, {"&{b:!int.end,c:!int.end}", "&{a:end,b:!int.end,c:end}", "c"},
		// What is carried is tried ahead of what comes next, labels rising; a shorter way goes ahead of both.
		{"!{!int.end}.!int.end", "!{end}.end", "^"}, {"?{!int.end}.!int.end", "?{end}.end", "^"}, {"!{!int.!int.end}.!int.end", "!{!int.end}.end", "."}, {"!{!int.!int.end}.!int.!int.end", "!{!int.end}.!int.end", "^ ."}, {"!{end}.!{!int.end}.!int.end", "!{end}.!{end}.end", ". ^"},
		{"+{a:!int.end,b:!int.end}", "+{a:end,b:end}", "a"}, {"+{a:!int.!int.end,b:!int.end}", "+{a:!int.end,b:end}", "b"}, {"&{aa:?int.?int.end,ab:?int.?int.end,b:?int.?int.end}", "&{aa:?int.?int.end,ab:?int.end,b:?int.end}", "ab ."}, {"+{a:+{b:!int.end},b:+{a:!int.end}}", "+{a:+{b:end},b:+{a:end}}", "a b"},
		{"?{?{end}.!int.end}.?{!int.end}.end", "?{?{end}.end}.?{end}.end", "^ ."}, {"!{!{end}.!int.end}.!{!int.end}.end", "!{!{end}.end}.!{end}.end", "^ ."},
		// Behind `^` of Give the other one is to be below; behind two of them not.
		{"!{+{a:end,b:end}}.end", "!{+{a:end}}.end", "^"}, {"?{+{a:end}}.end", "?{+{a:end,b:end}}.end", "^"}, {"!{&{a:end}}.end", "!{&{a:end,b:end}}.end", "^"}, {"!{!{+{a:end}}.end}.end", "!{!{+{a:end,b:end}}.end}.end", "^ ^"}, {"!{?{+{a:end,b:end}}.end}.end", "!{?{+{a:end}}.end}.end", "^ ^"}, {"!{?int.!{+{a:end}}.end}.end", "!{?int.!{+{a:end,b:end}}.end}.end", "^ . ^"},
		{"!{+{a:end,b:!int.end}}.end", "!{+{a:end,b:end,c:end}}.end", "^ b"},
		// The same nodes, once turned: it fails only there.
		{"rec t.!{t}.+{a:t,b:end}", "rec t.!{t}.+{a:t}", "^ ."}, {"rec t.!int.!{t}.+{a:t,b:end}", "rec t.!int.!{t}.+{a:t}", ". ^ . ."},
		{"rec t.!int.t", "!int.!int.!int.end", ". . ."}, {"rec t.!int.!int.+{a:t,b:t}", "rec t.!int.+{a:t}", "."}, {"rec t.+{go:!int.t,no:end}", "rec t.+{go:!int.+{go:!int.t},no:!int.end}", "no"},
		{"rec t.!int.!int.!int.&{a:t}", "!int.!int.!int.&{a:rec t.!int.!int.&{a:t}}", ". . . a . ."},
	} {
		way, e := below.Why(parsed(t, x.s), parsed(t, x.t))
		if e != api.OK || !slices.Equal(way, strings.Fields(x.want)) {
			t.Errorf("Why(%s, %s) = %q, %d, want %s", x.s, x.t, way, e, x.want)
		}
	}
}

func TestP19NoneIfItIsBelow(t *testing.T) {
	for _, x := range [][2]string{{"end", "end"}, {"+{a:end,b:end}", "+{a:end}"}, {"&{a:end}", "&{a:end,b:end}"}, {"!{+{a:end}}.end", "!{+{a:end,b:end}}.end"}, {"rec t.!int.t", "!int.rec t.!int.t"}, {"+{a:end,b:!int.end}", "+{a:end}"}} {
		if way, e := below.Why(parsed(t, x[0]), parsed(t, x[1])); way != nil || e != api.ErrNone {
			t.Errorf("Why(%s, %s) = %q, %d", x[0], x[1], way, e)
		}
	}
}

func TestP19LongWays(t *testing.T) {
	// Each of the labels b holds but where both rings, of 7 and of 50 nodes, are at their last one: that is so at the last of 350 places.
	s := parsed(t, "rec t."+strings.Repeat("+{a:", 6)+"+{a:t,b:end}"+strings.Repeat(",b:!int.end}", 6))
	u := parsed(t, "rec t."+strings.Repeat("+{a:", 49)+"+{a:t,b:!int.end}"+strings.Repeat("}", 49))
	want := append(slices.Repeat([]string{"a"}, 349), "b")
	if way, e := below.Why(s, u); e != api.OK || !slices.Equal(way, want) {
		t.Errorf("%d steps, %d", len(way), e)
	}
	s = parsed(t, strings.Repeat("!int.", 59)+"end")
	u = parsed(t, "rec t."+strings.Repeat("!int.", 58)+"t")
	if way, e := below.Why(s, u); e != api.OK || !slices.Equal(way, slices.Repeat([]string{"."}, 59)) {
		t.Errorf("%q, %d", way, e)
	}
}

// wayOf goes on by the first step that brings it nearer.
func wayOf(a, b []api.Node) []string {
	g := together(a, b)
	all := distances(g)
	low, high := 0, len(a)
	var way []string
	for all[low][high] > 0 {
		steps := furtherFrom(g[low], g[high])
		nearer := slices.IndexFunc(steps, func(f further) bool { return all[f.low][f.high] < all[low][high] })
		way, low, high = append(way, steps[nearer].word), steps[nearer].low, steps[nearer].high
	}
	return way
}

func TestP19WhyOfMany(t *testing.T) {
	lengths := map[int]int{}
	for _, pair := range mixed(6000, 5) {
		s, e := graph.Back(pair[0])
		u, f := graph.Back(pair[1])
		if e != api.OK || f != api.OK {
			continue
		}
		way, e := below.Why(s, u)
		if isBelow(pair[0], pair[1]) {
			if way != nil || e != api.ErrNone {
				t.Fatalf("Why(%v, %v) = %q, %d", s, u, way, e)
			}
			continue
		}
		lengths[len(way)]++
		if want := wayOf(pair[0], pair[1]); e != api.OK || !slices.Equal(way, want) {
			t.Fatalf("Why(%v, %v) = %q, %d, want %q", s, u, way, e, want)
		}
	}
	if lengths[0] < 100 || lengths[1] < 100 || lengths[2] < 30 || lengths[3] < 10 {
		t.Errorf("too few: %v", lengths)
	}
}
