package project_test

import (
	"reflect"
	"testing"
	"unsafe"

	"duet/api"
	"duet/global"
	"duet/project"
	"duet/types"
)

// room is where a text or a list lies, its spare room included.
type room struct{ from, to uintptr }

func roomOfText(s string) room {
	from := uintptr(unsafe.Pointer(unsafe.StringData(s)))
	return room{from, from + uintptr(len(s))}
}

func roomOf[T any](list []T) room {
	var one T
	from := uintptr(unsafe.Pointer(unsafe.SliceData(list)))
	return room{from, from + uintptr(cap(list))*unsafe.Sizeof(one)}
}

func roomsOfTexts(list []string) []room {
	rooms := []room{roomOf(list)}
	for _, s := range list {
		rooms = append(rooms, roomOfText(s))
	}
	return rooms
}

func roomsOf(l api.Local) []room {
	rooms := append(roomsOfTexts(l.Labels), roomOfText(l.With), roomOfText(l.Name), roomOf(l.Kids))
	for _, kid := range l.Kids {
		rooms = append(rooms, roomsOf(kid)...)
	}
	return rooms
}

func roomsOfType(t api.Type) []room {
	rooms := append(roomsOfTexts(t.Labels), roomOfText(t.Name), roomOf(t.Kids))
	for _, kid := range t.Kids {
		rooms = append(rooms, roomsOfType(kid)...)
	}
	return rooms
}

func roomsOfTalk(g api.Global) []room {
	rooms := append(roomsOfTexts(g.Labels), roomOfText(g.From), roomOfText(g.To), roomOfText(g.Name), roomOf(g.Kids))
	for _, kid := range g.Kids {
		rooms = append(rooms, roomsOfTalk(kid)...)
	}
	return rooms
}

func wantApart(t *testing.T, what string, a, b []room) {
	t.Helper()
	for _, p := range a {
		for _, q := range b {
			if p.from < p.to && q.from < q.to && p.from < q.to && q.from < p.to {
				t.Errorf("%s: memory is shared", what)
			}
		}
	}
}

func wantApartWithin(t *testing.T, what string, a []room) {
	t.Helper()
	for i := range a {
		wantApart(t, what, a[:i], a[i:i+1])
	}
}

// fresh is a copy that the compiler can't lay beside its constants.
func fresh(s string) string { return string([]byte(s)) }

func freshList(list ...string) []string {
	for i := range list {
		list[i] = fresh(list[i])
	}
	return append(list, fresh("spare"))[:len(list)]
}

// handed is with one role; its lists have spare room, with something in it, and one list of Kids stands in it twice.
func handed() api.Local {
	next := []api.Local{{Kind: api.Var, Name: fresh("tt")}, variable("spare")}
	kids := []api.Local{{Kind: api.Recv, With: fresh("b"), Sort: api.Int, Kids: next[:1]}, {Kind: api.Send, With: fresh("b"), Sort: api.Int, Kids: next[:1]}, variable("spare")}
	bodies := []api.Local{{Kind: api.Offer, With: fresh("b"), Labels: freshList("first", "second"), Kids: kids[:2]}, variable("spare")}
	return api.Local{Kind: api.Rec, Name: fresh("tt"), Kids: bodies[:1]}
}

// handedTalk is likewise; what c does in it is merged, and what d does has no Rec any more.
func handedTalk() api.Global {
	last := []api.Global{{Kind: api.Var, Name: fresh("tt")}, {Kind: api.Var, Name: "spare"}}
	next := []api.Global{{Kind: api.Pick, From: fresh("b"), To: fresh("c"), Labels: freshList("third"), Kids: last[:1]}, {Kind: api.Pick, From: fresh("b"), To: fresh("c"), Labels: freshList("fourth"), Kids: last[:1]}, {Kind: api.End}}
	bodies := []api.Global{{Kind: api.Pick, From: fresh("a"), To: fresh("b"), Labels: freshList("first", "second"), Kids: next[:2]}, {Kind: api.End}}
	recs := []api.Global{{Kind: api.Rec, Name: fresh("tt"), Kids: bodies[:1]}, {Kind: api.End}}
	return api.Global{Kind: api.Send, From: fresh("d"), To: fresh("a"), Sort: api.Int, Kids: recs[:1]}
}

func TestP2AnswersAreNewMemory(t *testing.T) {
	x, y := handed(), handed()
	y.Kids[0].Labels[1] = fresh("third")
	for _, pair := range [][2]api.Local{{end(), end()}, {x, y}, {y, x}, {x, x}, {send("b", api.Int, x), send("b", api.Int, y)}, {choice(api.Pick, "b", "a b", x, x), choice(api.Pick, "b", "a b", x, y)}, {choice(api.Offer, "b", "a b", x, x), choice(api.Offer, "b", "b c", y, y)}} {
		given := append(roomsOf(pair[0]), roomsOf(pair[1])...)
		s, _ := project.Write(pair[0])
		wantApart(t, "Write", []room{roomOfText(s)}, given)
		l, e := project.Merge(pair[0], pair[1])
		wantApart(t, "Merge", roomsOf(l), given)
		wantApartWithin(t, "Merge", roomsOf(l))
		if s == "" || e != api.OK {
			t.Errorf("Merge with %s: %d", s, e)
		}
		z, e := project.Type(pair[0])
		wantApart(t, "Type", roomsOfType(z), given)
		wantApartWithin(t, "Type", roomsOfType(z))
		if e != api.OK {
			t.Errorf("Type of %s: %d", s, e)
		}
	}
}

func TestP2WhatARoleDoesIsNewMemory(t *testing.T) {
	g := handedTalk()
	for role, want := range map[string]string{
		"a": "d?int.rec tt.b+{first:tt,second:tt}", "b": "rec tt.a&{first:c+{third:tt},second:c+{fourth:tt}}", "c": "rec tt.b&{fourth:tt,third:tt}", "d": "a!int.end", "e": "end",
	} {
		role = fresh(role)
		l, e := project.Of(g, role)
		wantApart(t, "Of "+role, roomsOf(l), append(roomsOfTalk(g), roomOfText(role)))
		wantApartWithin(t, "Of "+role, roomsOf(l))
		if s, _ := project.Write(l); s != want || e != api.OK {
			t.Errorf("Of %s: %q, %d, want %q", role, s, e, want)
		}
		// Here what b does is not merged with anything.
		l, _ = project.Of(g.Kids[0], role)
		wantApart(t, "Of "+role, roomsOf(l), append(roomsOfTalk(g), roomOfText(role)))
		wantApartWithin(t, "Of "+role, roomsOf(l))
	}
}

func TestP2WhatIsHandedInIsNotChanged(t *testing.T) {
	x, y, want := handed(), handed(), handed()
	project.Check(x)
	project.Write(x)
	project.Type(x)
	project.Merge(x, y)
	project.Merge(choice(api.Offer, "b", "a", x), choice(api.Offer, "b", "b", y))
	for _, l := range []api.Local{x, y} {
		body, same := l.Kids[:2][0], want.Kids[:2][0]
		if !reflect.DeepEqual(l.Kids[:2], want.Kids[:2]) || !reflect.DeepEqual(body.Labels[:3], same.Labels[:3]) || !reflect.DeepEqual(body.Kids[:3], same.Kids[:3]) || !reflect.DeepEqual(body.Kids[0].Kids[:2], same.Kids[0].Kids[:2]) || l.Name != want.Name {
			t.Errorf("changed: %v", l)
		}
	}
	g, before := handedTalk(), handedTalk()
	for _, role := range []string{"a", "b", "c", "d", "e"} {
		project.Of(g, role)
	}
	for range 4 {
		if !reflect.DeepEqual(g.Kids[:cap(g.Kids)], before.Kids[:cap(before.Kids)]) || !reflect.DeepEqual(g.Labels[:cap(g.Labels)], before.Labels[:cap(before.Labels)]) {
			t.Errorf("changed: %v", g)
		}
		g, before = g.Kids[0], before.Kids[0]
	}
}

// TestP2NothingIsKept: what is handed in, and what is answered, may be changed behind a call.
func TestP2NothingIsKept(t *testing.T) {
	for range 2 {
		x, g := handed(), handedTalk()
		m, _ := project.Merge(x, x)
		y, _ := project.Type(x)
		l, _ := project.Of(g, "b")
		w, _ := types.Write(y)
		if s, _ := global.Write(g); plain(m) != plain(handed()) || w != "rec tt.&{first:?int.tt,second:!int.tt}" || s != "d>a:int.rec tt.a>b{first:b>c{third:tt},second:b>c{fourth:tt}}" || plain(l) != plain(made(t, "rec tt.a&{first:c+{third:tt},second:c+{fourth:tt}}")) {
			t.Errorf("%s, %s, %s, %s", plain(m), w, s, plain(l))
		}
		m.Kids[0].Labels[0], y.Kids[0].Labels[0], l.Kids[0].Labels[0] = "x", "y", "z"
		x.Kids[0].Labels[1], g.Kids[0].Kids[0].Labels[1] = "u", "v"
	}
}
