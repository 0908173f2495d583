package project_test

import (
	"reflect"
	"strings"
	"testing"

	"duet/api"
	"duet/global"
	"duet/project"
)

// talk is for texts of which a test takes it for granted that they are read.
func talk(t *testing.T, s string) api.Global {
	t.Helper()
	g, f := global.Parse(s)
	if f.Code != api.OK {
		t.Fatalf("Parse(%q): %v", s, f)
	}
	return g
}

// wantOf is `no` where something can't be merged.
func wantOf(t *testing.T, s, role, want string) {
	t.Helper()
	l, e := project.Of(talk(t, s), role)
	if want == "no" {
		if e != api.ErrNone || !reflect.DeepEqual(l, api.Local{}) {
			t.Errorf("Of(%s, %s): %v, %d, want ErrNone", s, role, l, e)
		}
		return
	}
	if w, _ := project.Write(l); w != want || e != api.OK {
		t.Errorf("Of(%s, %s): %q, %d, want %q", s, role, w, e, want)
	}
}

func TestP38Of(t *testing.T) {
	for _, x := range []struct{ s, role, want string }{
		{"end", "a", "end"}, {"end", "h", "end"}, {"rec t.end", "a", "end"},
		{"a>b:int.end", "a", "b!int.end"}, {"a>b:int.end", "b", "a?int.end"}, {"a>b:int.end", "c", "end"}, {"h>g:text.g>h:bool.end", "h", "g!text.g?bool.end"}, {"h>g:text.g>h:bool.end", "g", "h?text.h!bool.end"},
		{"a>b{go:end,no:b>a:int.end}", "a", "b+{go:end,no:b?int.end}"}, {"a>b{go:end,no:b>a:int.end}", "b", "a&{go:end,no:a!int.end}"}, {"a>b{go:end,no:b>a:int.end}", "c", "end"},
		{"a>b:int.b>c:bool.c>a:text.end", "a", "b!int.c?text.end"}, {"a>b:int.b>c:bool.c>a:text.end", "b", "a?int.c!bool.end"}, {"a>b:int.b>c:bool.c>a:text.end", "c", "b?bool.a!text.end"}, {"a>b:int.b>c:bool.c>a:text.end", "d", "end"},
		{"a>b:int.b>a{no:end,yes:end}", "a", "b!int.b&{no:end,yes:end}"}, {"a>b:int.c>d:bool.end", "c", "d!bool.end"},
		// Recs.
		{"rec x.a>b:int.x", "a", "rec x.b!int.x"}, {"rec x.a>b:int.x", "b", "rec x.a?int.x"}, {"rec x.a>b:int.x", "c", "end"}, {"rec x.a>b:int.end", "a", "rec x.b!int.end"}, {"rec x.a>b:int.end", "c", "end"},
		{"a>c:int.rec x.a>b:int.x", "c", "a?int.end"}, {"rec x.rec y.a>b:int.x", "c", "end"}, {"rec x.rec y.a>b:int.y", "c", "end"}, {"rec x.rec x.a>b:int.x", "c", "end"}, {"rec x.rec y.a>b:int.x", "a", "rec x.rec y.b!int.x"},
		{"rec x.c>a:int.rec y.a>b:int.x", "c", "rec x.a!int.x"}, {"rec x.c>a:int.rec y.a>b:int.y", "c", "rec x.a!int.end"}, {"rec x.c>a:int.rec x.a>b:int.x", "c", "rec x.a!int.end"}, {"rec x.c>a:int.rec y.rec z.a>b:int.x", "c", "rec x.a!int.x"}, {"rec x.c>a:int.rec y.rec z.a>b:int.y", "c", "rec x.a!int.end"},
		{"rec x.a>b:int.rec y.c>a:int.x", "c", "rec x.rec y.a!int.x"}, {"rec x.rec y.rec z.a>c:int.y", "c", "rec x.rec y.rec z.a?int.y"}, {"rec a.a>b:int.a", "a", "rec a.b!int.a"}, {"rec a.b>c:int.a", "a", "end"},
		{"rec x.a>b{go:b>c{go:x},no:b>c{no:end}}", "c", "rec x.b&{go:x,no:end}"}, {"rec x.a>b{go:x,no:x}", "c", "end"}, {"rec x.a>b{go:rec y.b>a:int.x,no:x}", "c", "end"}, {"rec x.a>b{go:rec y.b>a:int.end,no:end}", "c", "end"}, {"rec x.c>a:int.a>b{go:rec y.b>a:int.x,no:x}", "c", "rec x.a!int.x"},
		// What can't be merged, wherever it stands.
		{"a>b{go:b>c:int.end,no:end}", "c", "no"}, {"a>b{go:b>c:int.end,no:end}", "a", "b+{go:end,no:end}"}, {"a>b{go:b>c:int.end,no:end}", "b", "a&{go:c!int.end,no:end}"}, {"a>b{go:b>c:int.end,no:end}", "d", "end"}, {"rec x.a>b{go:x,no:end}", "c", "no"}, {"rec x.a>b{go:x,no:end}", "a", "rec x.b+{go:x,no:end}"},
		{"rec x.rec y.a>b{go:x,no:y}", "c", "no"}, {"rec x.rec y.a>b{go:x,no:y}", "a", "rec x.rec y.b+{go:x,no:y}"}, {"rec x.a>b{go:rec y.b>a:int.y,no:x}", "c", "no"}, {"rec x.a>b{go:rec y.b>a:int.y,no:rec z.b>a:int.z}", "c", "end"},
		{"c>a:int.a>b{go:b>c:int.end,no:end}", "c", "no"}, {"c>a{go:end,no:a>b{go:b>c:int.end,no:end}}", "c", "no"}, {"rec x.c>a{go:x,no:rec y.a>b{go:b>c:int.y,no:x}}", "c", "no"}, {"a>b{a:end,b:a>b{go:b>c:int.end,no:end}}", "c", "no"}, {"a>b{a:end,b:end,c:c>a:int.end}", "c", "no"}, {"a>b{a:c>a:int.end,b:end,c:end}", "c", "no"},
		{"a>b{a:rec x.b>c:int.x,b:rec y.b>c:int.y}", "c", "no"}, {"a>b{a:rec x.b>c:int.x,b:rec x.b>c:int.x}", "c", "rec x.b?int.x"}, {"a>b{a:rec x.b>c:int.x,b:b>c:int.rec x.b>c:int.x}", "c", "no"},
		// Choices with one label, and of three and more.
		{"a>b{go:b>c:int.end}", "c", "b?int.end"}, {"a>b{a:b>c{x:end},b:b>c{y:end},c:b>c{x:end,z:end}}", "c", "b&{x:end,y:end,z:end}"}, {"a>b{a:b>c{x:end},b:b>c{y:end},c:b>c{x:c>a:int.end}}", "c", "no"},
		{"a>b{a:c>b{x:end,y:end},b:c>b{x:end,y:end}}", "c", "b+{x:end,y:end}"}, {"a>b{a:c>b{x:end},b:c>b{x:end,y:end}}", "c", "no"}, {"a>b{a:b>c{x:end},b:a>c{x:end}}", "c", "no"}, {"a>b{a:b>c:int.end,b:b>c:bool.end}", "c", "no"},
		{"a>b{a:b>c{a:end,b:end,c:end},b:b>c{d:end,e:end,f:end}}", "c", "b&{a:end,b:end,c:end,d:end,e:end,f:end}"}, {"a>b{a:b>c{a:end,b:end,c:end},b:b>c{d:end,e:end,f:end,g:end}}", "c", "no"},
		{"a>b{a:b>c{a:end},b:b>c{b:end},c:b>c{c:end},d:b>c{d:end},e:b>c{e:end},f:b>c{f:end}}", "c", "b&{a:end,b:end,c:end,d:end,e:end,f:end}"},
		// In the Kids of what is merged.
		{"a>b{x:b>c:int.b>c{x:end},y:b>c:int.b>c{y:end}}", "c", "b?int.b&{x:end,y:end}"}, {"a>b{x:c>d:int.b>c{x:end},y:c>d:int.b>c{y:end}}", "c", "d!int.b&{x:end,y:end}"}, {"a>b{x:c>d:int.b>c{x:end},y:c>d:int.b>c{y:end}}", "d", "c?int.end"},
		{"a>b{x:rec t.b>c{x:t},y:rec t.b>c{y:t}}", "c", "rec t.b&{x:t,y:t}"}, {"a>b{x:rec t.b>c{x:t},y:rec t.b>c{x:end}}", "c", "no"}, {"a>b{x:a>d{p:b>c{p:end},q:b>c{q:end}},y:b>c{r:end}}", "c", "b&{p:end,q:end,r:end}"}, {"a>b{x:a>d{p:b>c{p:end},q:b>c{q:end}},y:b>c{r:end}}", "d", "no"},
	} {
		wantOf(t, x.s, x.role, x.want)
	}
}

func TestP38OfSorts(t *testing.T) {
	for _, sort := range []string{"int", "bool", "text"} {
		wantOf(t, "a>b:"+sort+".end", "a", "b!"+sort+".end")
		wantOf(t, "a>b:"+sort+".end", "b", "a?"+sort+".end")
	}
}

func TestP38OfEachRole(t *testing.T) {
	const roles = "abcdefgh"
	for _, from := range strings.Split(roles, "") {
		for _, to := range strings.Split(roles, "") {
			if from == to {
				continue
			}
			for _, role := range strings.Split(roles, "") {
				said, picked := "end", "end"
				switch role {
				case from:
					said, picked = to+"!int.end", to+"+{x:end}"
				case to:
					said, picked = from+"?int.end", from+"&{x:end}"
				}
				wantOf(t, from+">"+to+":int.end", role, said)
				wantOf(t, from+">"+to+"{x:end}", role, picked)
			}
		}
	}
}

func TestP38OfManyParts(t *testing.T) {
	wantOf(t, strings.Repeat("a>b:int.", 59)+"end", "a", strings.Repeat("b!int.", 59)+"end")
	wantOf(t, strings.Repeat("a>b:int.", 59)+"end", "c", "end")
	wantOf(t, "rec t."+strings.Repeat("a>b:int.", 58)+"t", "b", "rec t."+strings.Repeat("a?int.", 58)+"t")
	wantOf(t, strings.Repeat("rec t.", 58)+"a>b:int.end", "c", "end")
	wantOf(t, strings.Repeat("rec t.", 58)+"a>b:int.t", "b", strings.Repeat("rec t.", 58)+"a?int.t")
	// Each part of an offer that is merged is one of the conversation's.
	wantOf(t, "a>b{a:b>c{a:"+strings.Repeat("b>c:int.", 25)+"end},b:b>c{b:"+strings.Repeat("b>c:int.", 25)+"end}}", "c", "b&{a:"+strings.Repeat("b?int.", 25)+"end,b:"+strings.Repeat("b?int.", 25)+"end}")
}

func TestP38OfWantsAConversationAndARole(t *testing.T) {
	end := api.Global{Kind: api.End}
	free := api.Global{Kind: api.Var, Name: "x"}
	idle := api.Global{Kind: api.Rec, Name: "x", Kids: []api.Global{free}}
	long := end
	for range 60 {
		long = api.Global{Kind: api.Send, From: "a", To: "b", Sort: api.Int, Kids: []api.Global{long}}
	}
	loop := api.Global{Kind: api.Send, From: "a", To: "b", Sort: api.Int, Kids: make([]api.Global, 1)}
	loop.Kids[0] = loop
	for i, x := range []struct {
		g    api.Global
		want api.Errno
	}{
		{api.Global{}, api.ErrArg}, {free, api.ErrName}, {idle, api.ErrType}, {long, api.ErrLarge}, {loop, api.ErrLarge}, {api.Global{Kind: api.Recv, From: "a", To: "b", Sort: api.Int, Kids: []api.Global{end}}, api.ErrArg},
		// Also where it is in a part that could not be merged.
		{api.Global{Kind: api.Pick, From: "a", To: "b", Labels: []string{"a", "b"}, Kids: []api.Global{end, free}}, api.ErrName},
	} {
		for _, role := range []string{"a", "c", "", "i", "ab"} {
			if l, e := project.Of(x.g, role); e != x.want || !reflect.DeepEqual(l, api.Local{}) {
				t.Errorf("Of %d, %q: %v, %d, want %d", i, role, l, e, x.want)
			}
		}
	}
	for _, s := range []string{"end", "a>b:int.end", "rec x.a>b{go:x,no:end}", "a>b{go:b>c:int.end,no:end}"} {
		for _, role := range []string{"", "i", "A", "ab", "aa", " a", "a ", "`", "é", "\xff", "end", "1", strings.Repeat("a", 100000)} {
			if l, e := project.Of(talk(t, s), role); e != api.ErrArg || !reflect.DeepEqual(l, api.Local{}) {
				t.Errorf("Of(%s, %.20q): %v, %d", s, role, l, e)
			}
		}
	}
}
