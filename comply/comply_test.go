package comply_test

import (
	"slices"
	"strings"
	"testing"

	"duet/api"
	"duet/comply"
	"duet/types"
)

// parsed is for texts of which a test takes it for granted that they are read.
func parsed(t *testing.T, s string) api.Type {
	t.Helper()
	x, f := types.Parse(s)
	if f.Code != api.OK {
		t.Fatalf("Parse(%q): %v", s, f)
	}
	return x
}

// wantOn looks whether two types get on, in either order, and by how few doings they come to End: below 0, if they can't.
func wantOn(t *testing.T, s, u string, doings int) {
	t.Helper()
	count, none := doings, api.OK
	if doings < 0 {
		count, none = 0, api.ErrNone
	}
	for _, pair := range [][2]string{{s, u}, {u, s}} {
		one, other := parsed(t, pair[0]), parsed(t, pair[1])
		if ok, e := comply.Do(one, other); !ok || e != api.OK {
			t.Errorf("Do(%s, %s) = %v, %d", pair[0], pair[1], ok, e)
		}
		if way, e := comply.Stuck(one, other); way != nil || e != api.ErrNone {
			t.Errorf("Stuck(%s, %s) = %q, %d", pair[0], pair[1], way, e)
		}
		if n, e := comply.Ends(one, other); n != count || e != none {
			t.Errorf("Ends(%s, %s) = %d, %d, want %d, %d", pair[0], pair[1], n, e, count, none)
		}
	}
}

// wantStuck looks whether two types don't get on, in either order, and on which way they come there.
func wantStuck(t *testing.T, s, u string, way []string) {
	t.Helper()
	for _, pair := range [][2]string{{s, u}, {u, s}} {
		one, other := parsed(t, pair[0]), parsed(t, pair[1])
		if ok, e := comply.Do(one, other); ok || e != api.OK {
			t.Errorf("Do(%s, %s) = %v, %d", pair[0], pair[1], ok, e)
		}
		if got, e := comply.Stuck(one, other); e != api.OK || !slices.Equal(got, way) {
			t.Errorf("Stuck(%s, %s) = %q, %d, want %q", pair[0], pair[1], got, e, way)
		}
		if n, e := comply.Ends(one, other); n != 0 || e != api.ErrType {
			t.Errorf("Ends(%s, %s) = %d, %d", pair[0], pair[1], n, e)
		}
	}
}

func TestP21TheyGetOn(t *testing.T) {
	for _, x := range []struct {
		s, t string
		ends int
	}{
		{"end", "end", 0}, {"end", "rec t.end", 0}, {"!int.end", "?int.end", 1}, {"!bool.end", "?bool.end", 1}, {"!text.?int.end", "?text.!int.end", 2}, {"!{end}.end", "?{end}.end", 1},
		// Who offers may have more labels; what comes next of these is never come to.
		{"+{a:end}", "&{a:end}", 1}, {"+{a:end}", "&{a:end,b:end}", 1}, {"+{b:end}", "&{a:end,b:end}", 1}, {"+{a:end}", "&{a:end,b:!int.end}", 1}, {"+{c:end,f:!int.end}", "&{a:?int.end,b:end,c:end,d:end,e:end,f:?int.end}", 1}, {"+{a:end,b:end,c:end,d:end,e:end,f:end}", "&{a:end,b:end,c:end,d:end,e:end,f:end}", 1}, {"+{a:+{a:end}}", "&{a:&{a:end,b:?int.end},b:rec t.?int.t}", 2},
		// What is given is below what is taken, and what is carried is not turned.
		{"!{!int.end}.?bool.end", "?{!int.end}.!bool.end", 2}, {"!{+{a:end,b:end}}.end", "?{+{a:end}}.end", 1}, {"!{&{a:end}}.end", "?{&{a:end,b:end}}.end", 1}, {"!{!{+{a:end}}.end}.end", "?{!{+{a:end,b:end}}.end}.end", 1}, {"!{?{+{a:end,b:end}}.end}.end", "?{?{+{a:end}}.end}.end", 1}, {"!{rec t.!int.t}.end", "?{!int.rec t.!int.!int.t}.end", 1},
		{"?{+{a:end}}.!{&{a:end}}.end", "!{+{a:end,b:end}}.?{&{a:end,b:end}}.end", 2}, {"!{!int.!int.!int.end}.end", "?{!int.!int.!int.end}.end", 1}, {"!{rec t.!{t}.t}.end", "?{rec t.!{t}.t}.end", 1},
		// By the fewest doings, of all ways that both may come.
		{"+{a:!int.!int.end,b:!int.end,c:!int.!int.!int.end}", "&{a:?int.?int.end,b:?int.end,c:?int.?int.?int.end}", 2}, {"+{a:!int.!int.end,c:!int.end}", "&{a:?int.?int.end,b:end,c:?int.end}", 2}, {"rec t.+{go:!int.t,no:end}", "rec t.&{go:?int.t,no:end}", 1}, {"rec t.+{go:!int.t,no:end}", "rec t.&{go:?int.t,no:end,x:end}", 1}, {"rec t.!int.&{go:t,no:end}", "rec t.?int.+{go:t,no:end}", 2}, {"rec t.!int.&{go:t,no:end}", "?int.+{go:rec t.?int.+{go:?int.+{no:end}}}", 6},
		{"+{a:rec t.!int.t,b:!int.!int.end}", "&{a:rec t.?int.t,b:?int.?int.end}", 3},
		// For ever: not only what leads to End gets on.
		{"rec t.!int.t", "rec t.?int.t", -1}, {"rec t.!int.t", "?int.rec t.?int.?int.t", -1}, {"rec t.!int.?bool.t", "?int.rec t.!bool.?int.t", -1}, {"rec t.+{a:t}", "rec t.&{a:t,b:end}", -1}, {"rec t.&{a:t,b:end}", "rec t.+{a:t}", -1}, {"rec t.!{end}.t", "rec t.?{end}.t", -1}, {"rec t.+{a:t,b:+{c:t}}", "rec t.&{a:t,b:&{c:t,d:end},e:end}", -1},
		{"rec t.!{t}.end", "?{rec t.!{t}.end}.end", 1}, {"rec t.!{t}.t", "rec s.?{rec t.!{t}.t}.s", -1}, {"rec t.?{t}.+{a:t,b:end}", "rec s.!{rec t.?{t}.+{a:t,b:end}}.&{a:s,b:end}", 2},
	} {
		wantOn(t, x.s, x.t, x.ends)
	}
}

func TestP21TheyDoNotGetOn(t *testing.T) {
	for _, x := range []struct{ s, t, way string }{
		// From the beginning.
		{"!int.end", "?bool.end", ""}, {"!int.end", "?text.end", ""}, {"!int.end", "!int.end", ""}, {"?int.end", "?int.end", ""}, {"end", "!int.end", ""}, {"end", "?int.end", ""}, {"end", "+{a:end}", ""}, {"end", "&{a:end}", ""}, {"end", "!{end}.end", ""}, {"end", "?{end}.end", ""}, {"!{end}.end", "!{end}.end", ""}, {"?{end}.end", "?{end}.end", ""}, {"+{a:end}", "+{a:end}", ""}, {"&{a:end}", "&{a:end}", ""}, {"!int.end", "&{a:end}", ""}, {"+{a:end}", "?int.end", ""}, {"!int.end", "?{end}.end", ""}, {"!{end}.end", "?int.end", ""}, {"!{end}.end", "&{a:end}", ""}, {"rec t.!int.t", "rec t.!int.t", ""},
		// A label that may be picked is not offered: it does not matter that others are, and what comes next of them.
		{"+{a:end,b:end}", "&{a:end}", ""}, {"+{a:end,b:end}", "&{b:end}", ""}, {"+{a:end}", "&{b:end}", ""}, {"+{a:end,b:end}", "&{b:end,c:end}", ""}, {"+{a:!int.end,b:end}", "&{a:end}", ""}, {"+{a:end,b:end,c:end,d:end,e:end,f:end}", "&{a:end,b:end,c:end,d:end,e:end}", ""}, {"+{ab:end}", "&{a:end,abc:end}", ""},
		// What is given is not below what is taken: it is told where it is given, not where it fails.
		{"!{end}.end", "?{!int.end}.end", ""}, {"!{!int.end}.end", "?{?int.end}.end", ""}, {"!{+{a:end}}.end", "?{+{a:end,b:end}}.end", ""}, {"!{&{a:end,b:end}}.end", "?{&{a:end}}.end", ""}, {"!{!int.!int.!int.end}.end", "?{!int.!int.!bool.end}.end", ""}, {"!{!{+{a:end,b:end}}.end}.end", "?{!{+{a:end}}.end}.end", ""}, {"!{?{+{a:end}}.end}.end", "?{?{+{a:end,b:end}}.end}.end", ""}, {"rec t.!{t}.end", "rec t.?{t}.end", ""}, {"rec t.!{t}.t", "rec t.?{t}.t", ""},
		{"!{!int.!int.end}.!int.end", "?{!int.!bool.end}.!int.end", ""}, {"!int.!{!int.!int.end}.end", "?int.?{!int.end}.end", "."}, {"?bool.?{+{a:end,b:end}}.end", "!bool.!{+{a:end}}.end", "."},
		// What comes next, of all kinds.
		{"!int.end", "?int.?int.end", "."}, {"!int.!int.end", "?int.end", "."}, {"?int.!int.end", "!int.!int.end", "."}, {"!{end}.!int.end", "?{end}.end", "."}, {"?{end}.end", "!{end}.!int.end", "."}, {"+{a:!int.end}", "&{a:end}", "a"}, {"+{b:end}", "&{a:end,b:!int.end}", "b"}, {"!int.+{a:end,b:end}", "?int.&{a:end}", "."}, {"!int.!{end}.+{ab:?bool.!int.end}", "?int.?{end}.&{ab:!bool.!int.end}", ". . ab ."},
		// The lesser label first, but a shorter way ahead of it.
		{"+{a:!int.end,b:!int.end}", "&{a:end,b:end}", "a"}, {"+{a:end,b:!int.end,c:!int.end}", "&{a:end,b:end,c:end}", "b"}, {"+{a:!int.!int.end,b:!int.end}", "&{a:?int.end,b:end}", "b"}, {"+{a:!int.!int.end,b:!int.end,c:?int.end}", "&{a:?int.end,b:?int.?int.end,c:!int.!int.end}", "a ."}, {"+{a:&{a:end,b:!int.end},b:&{a:!int.end}}", "&{a:+{a:end,b:end},b:+{a:end}}", "a b"}, {"+{aa:!int.!int.end,ab:!int.!int.end,b:!int.!int.end}", "&{aa:?int.?int.end,ab:?int.end,b:?int.end}", "ab ."},
		// Labels that are offered, but not picked, are no steps.
		{"+{b:!int.!int.end}", "&{a:!int.end,b:?int.end,c:end}", "b ."}, {"&{a:!int.end,b:&{a:?int.end,b:end}}", "+{b:+{b:!int.end}}", "b b"},
		// That some ways lead to End does not help.
		{"+{a:end,b:!int.!int.!int.end}", "&{a:end,b:?int.?int.end}", "b . ."}, {"rec t.+{go:!int.t,no:end}", "&{go:?int.&{go:?int.&{go:end,no:end},no:end},no:end}", "go . go . go"},
		// For ever, but for one place.
		{"rec t.!int.t", "?int.?int.?int.end", ". . ."}, {"rec t.!int.!int.t", "rec t.?int.?int.?int.!int.t", ". . ."}, {"rec t.+{a:t}", "&{a:&{a:rec t.&{a:&{b:t}}}}", "a a a"}, {"rec t.!{+{a:end}}.t", "?{+{a:end}}.?{+{a:end}}.rec t.?{+{a:end,b:end}}.t", ". ."}, {"rec t.!int.!int.+{a:t,b:t}", "rec t.?int.?int.&{a:t,b:?int.t}", ". . b . ."},
	} {
		wantStuck(t, x.s, x.t, strings.Fields(x.way))
	}
}

// ring of as many choices as are said, one behind the other by the label a; what further labels each has stands in a text, and in another one for the last of them.
func ring(sign string, choices int, each, last string) string {
	return "rec t." + strings.Repeat(sign+"{a:", choices-1) + sign + "{a:t" + last + "}" + strings.Repeat(each+"}", choices-1)
}

func TestP21LongWays(t *testing.T) {
	// The one picks b at the last of 52 places, the other one offers what does not fit at the last of 19.
	wantStuck(t, ring("+", 52, "", ",b:!int.end"), ring("&", 19, ",b:?int.end", ",b:?bool.end"), append(slices.Repeat([]string{"a"}, 52*19-1), "b"))
	// There the other one lets it end, elsewhere it begins anew.
	wantOn(t, ring("+", 53, "", ",b:&{c:t,d:end}"), ring("&", 19, ",b:+{c:t}", ",b:+{d:end}"), 53*19+1)
	wantOn(t, ring("+", 53, "", ",b:!int.t"), ring("&", 19, ",b:?int.t", ",b:?int.t"), -1)
	wantOn(t, strings.Repeat("!int.", 59)+"end", strings.Repeat("?int.", 59)+"end", 59)
	wantStuck(t, strings.Repeat("!int.", 59)+"end", "rec t."+strings.Repeat("?int.", 58)+"t", slices.Repeat([]string{"."}, 59))
}

func TestCallsSayWhatTypesCheckSays(t *testing.T) {
	fine := api.Type{Kind: api.End}
	loop := api.Type{Kind: api.Rec, Name: "t", Kids: []api.Type{{Kind: api.Var, Name: "t"}}}
	large := fine
	for range api.MaxParts {
		large = api.Type{Kind: api.Send, Sort: 1, Kids: []api.Type{large}}
	}
	endless := api.Type{Kind: api.Send, Sort: 1, Kids: make([]api.Type, 1)}
	endless.Kids[0] = endless
	choice := api.Type{Kind: api.Pick, Labels: []string{"b", "a"}, Kids: []api.Type{fine, fine}}
	for _, x := range []struct {
		t    api.Type
		want api.Errno
	}{{api.Type{}, api.ErrArg}, {choice, api.ErrArg}, {api.Type{Kind: api.Give}, api.ErrArg}, {api.Type{Kind: api.Var, Name: "t"}, api.ErrName}, {loop, api.ErrType}, {large, api.ErrLarge}, {endless, api.ErrLarge}} {
		// Of two with an error the first one's is told.
		for _, pair := range [][2]api.Type{{x.t, x.t}, {x.t, fine}, {fine, x.t}, {x.t, {Kind: 99, Sort: 99}}, {x.t, loop}, {x.t, large}} {
			if ok, e := comply.Do(pair[0], pair[1]); ok || e != x.want {
				t.Errorf("Do: %v, %d, want %d", ok, e, x.want)
			}
			if way, e := comply.Stuck(pair[0], pair[1]); way != nil || e != x.want {
				t.Errorf("Stuck: %v, %d, want %d", way, e, x.want)
			}
			if n, e := comply.Ends(pair[0], pair[1]); n != 0 || e != x.want {
				t.Errorf("Ends: %v, %d, want %d", n, e, x.want)
			}
		}
	}
}
