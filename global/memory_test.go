package global_test

import (
	"reflect"
	"slices"
	"testing"
	"unsafe"

	"duet/api"
	"duet/global"
)

// room is where a text or a list lies, its spare room included.
type room struct{ from, to uintptr }

func roomOfText(s string) room {
	from := uintptr(unsafe.Pointer(unsafe.StringData(s)))
	return room{from, from + uintptr(len(s))}
}

func roomOf[T any](list []T) room {
	var one T
	from := uintptr(unsafe.Pointer(unsafe.SliceData(list)))
	return room{from, from + uintptr(cap(list))*unsafe.Sizeof(one)}
}

func roomsOfTexts(list []string) []room {
	rooms := []room{roomOf(list)}
	for _, s := range list {
		rooms = append(rooms, roomOfText(s))
	}
	return rooms
}

func roomsOf(g api.Global) []room {
	rooms := append(roomsOfTexts(g.Labels), roomOfText(g.From), roomOfText(g.To), roomOfText(g.Name), roomOf(g.Kids))
	for _, kid := range g.Kids {
		rooms = append(rooms, roomsOf(kid)...)
	}
	return rooms
}

func wantApart(t *testing.T, what string, a, b []room) {
	t.Helper()
	for _, p := range a {
		for _, q := range b {
			if p.from < p.to && q.from < q.to && p.from < q.to && q.from < p.to {
				t.Errorf("%s: memory is shared", what)
			}
		}
	}
}

func wantApartWithin(t *testing.T, what string, a []room) {
	t.Helper()
	for i := range a {
		wantApart(t, what, a[:i], a[i:i+1])
	}
}

// fresh is a copy that the compiler can't lay beside its constants.
func fresh(s string) string { return string([]byte(s)) }

func freshList(list ...string) []string {
	for i := range list {
		list[i] = fresh(list[i])
	}
	return append(list, fresh("spare"))[:len(list)]
}

// handed is a conversation whose lists have spare room, with something in it.
func handed() api.Global {
	next := []api.Global{{Kind: api.Var, Name: fresh("tt")}, variable("spare")}
	kids := []api.Global{{Kind: api.End}, {Kind: api.Send, From: fresh("b"), To: fresh("c"), Sort: api.Int, Kids: next[:1]}, variable("spare")}
	bodies := []api.Global{{Kind: api.Pick, From: fresh("a"), To: fresh("b"), Labels: freshList("first", "second"), Kids: kids[:2]}, variable("spare")}
	return api.Global{Kind: api.Rec, Name: fresh("tt"), Kids: bodies[:1]}
}

func TestP2AnswersAreNewMemory(t *testing.T) {
	x := handed()
	for _, y := range []api.Global{end(), x, pick("ab", "a b", x, x), rec("s", pick("cd", "a b", variable("s"), rec("tt", x)))} {
		given := append(roomsOf(y), roomsOf(x)...)
		w, _ := global.Write(y)
		wantApart(t, "Write", []room{roomOfText(w)}, given)
		l, e := global.Roles(y)
		wantApart(t, "Roles", roomsOfTexts(l), given)
		wantApart(t, "Roles", roomsOf(api.Global{Labels: l[:cap(l)]}), given)
		if w == "" || e != api.OK {
			t.Errorf("Roles(%s): %d", w, e)
		}
		for _, names := range []struct{ from, to []string }{{nil, nil}, {freshList("a", "b"), freshList("e", "f")}, {freshList("a", "b", "c", "d"), freshList("b", "a", "d", "c")}} {
			h, e := global.Rename(y, names.from, names.to)
			wantApart(t, "Rename", roomsOf(h), slices.Concat(given, roomsOfTexts(names.from), roomsOfTexts(names.to)))
			wantApartWithin(t, "Rename", roomsOf(h))
			if e != api.OK {
				t.Errorf("Rename(%s, %q, %q): %d", w, names.from, names.to, e)
			}
		}
	}
}

func TestP2WhatIsReadIsNewMemory(t *testing.T) {
	for _, s := range []string{"end", "rec tt.a>b{first:tt,second:b>c:int.tt}", "a>b:int.a>b{a:end,b:end}"} {
		s = fresh(s)
		g, f := global.Parse(s)
		wantApart(t, "Parse", roomsOf(g), []room{roomOfText(s)})
		wantApartWithin(t, "Parse", roomsOf(g))
		if f.Code != api.OK {
			t.Errorf("Parse(%q): %v", s, f)
		}
	}
}

func TestP2WhatIsHandedInIsNotChanged(t *testing.T) {
	x, want := handed(), handed()
	from, to := freshList("c", "a"), freshList("d", "e")
	global.Check(x)
	global.Write(x)
	global.Roles(x)
	global.Rename(x, from, to)
	body, same := x.Kids[:2][0], want.Kids[:2][0]
	if !reflect.DeepEqual(x.Kids[:2], want.Kids[:2]) || !reflect.DeepEqual(body.Labels[:3], same.Labels[:3]) || !reflect.DeepEqual(body.Kids[:3], same.Kids[:3]) || x.Name != want.Name {
		t.Errorf("changed: %v", x)
	}
	if !reflect.DeepEqual(body.Kids[1].Kids[:2], same.Kids[1].Kids[:2]) || !slices.Equal(from[:3], []string{"c", "a", "spare"}) || !slices.Equal(to[:3], []string{"d", "e", "spare"}) {
		t.Errorf("changed: %v, %q, %q", x, from, to)
	}
}

// TestP2NothingIsKept: what is handed in, and what is answered, may be changed behind a call.
func TestP2NothingIsKept(t *testing.T) {
	const s = "rec tt.a>b{first:end,second:b>c:int.tt}"
	for range 2 {
		x := handed()
		w, _ := global.Write(x)
		l, _ := global.Roles(x)
		h, _ := global.Rename(x, nil, nil)
		if w != s || !slices.Equal(l, []string{"a", "b", "c"}) || plain(h) != plain(parsed(t, s)) {
			t.Errorf("%s, %q, %s", w, l, plain(h))
		}
		l[0], h.Kids[0].Kids[0].Kind, h.Kids[0].Labels[0] = "h", api.Var, "x"
	}
}
