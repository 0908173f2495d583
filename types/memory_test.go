package types_test

import (
	"reflect"
	"testing"
	"unsafe"

	"duet/api"
	"duet/types"
)

// room is where a text or a list lies, its spare room included.
type room struct{ from, to uintptr }

func roomOfText(s string) room {
	from := uintptr(unsafe.Pointer(unsafe.StringData(s)))
	return room{from, from + uintptr(len(s))}
}

func roomOf[T any](list []T) room {
	var one T
	from := uintptr(unsafe.Pointer(unsafe.SliceData(list)))
	return room{from, from + uintptr(cap(list))*unsafe.Sizeof(one)}
}

func roomsOf(t api.Type) []room {
	rooms := []room{roomOfText(t.Name), roomOf(t.Labels), roomOf(t.Kids)}
	for _, label := range t.Labels {
		rooms = append(rooms, roomOfText(label))
	}
	for _, kid := range t.Kids {
		rooms = append(rooms, roomsOf(kid)...)
	}
	return rooms
}

func wantApart(t *testing.T, what string, a, b []room) {
	t.Helper()
	for _, p := range a {
		for _, q := range b {
			if p.from < p.to && q.from < q.to && p.from < q.to && q.from < p.to {
				t.Errorf("%s: memory is shared", what)
			}
		}
	}
}

func wantApartWithin(t *testing.T, what string, a []room) {
	t.Helper()
	for i := range a {
		wantApart(t, what, a[:i], a[i:i+1])
	}
}

// fresh is a copy that the compiler can't lay beside its constants.
func fresh(s string) string { return string([]byte(s)) }

// handed is a type whose lists have spare room, with something in it.
func handed() api.Type {
	labels := []string{fresh("first"), fresh("second"), fresh("third")}
	kids := []api.Type{variable(fresh("tt")), give(variable(fresh("tt")), end()), variable("spare")}
	bodies := []api.Type{{Kind: api.Pick, Labels: labels[:2], Kids: kids[:2]}, variable("spare")}
	return api.Type{Kind: api.Rec, Name: fresh("tt"), Kids: bodies[:1]}
}

func TestP2AnswersAreNewMemory(t *testing.T) {
	x := handed()
	given := roomsOf(x)
	same := give(x, rec("s", give(x, choice(api.Pick, "a b", variable("s"), x))))
	for _, y := range []api.Type{x, give(x, x), same, rec("s", x), rec("tt", x), rec("s", send(api.Int, give(x, variable("s"))))} {
		u, e := types.Unfold(y)
		wantApart(t, "Unfold", roomsOf(u), append(given, roomsOf(y)...))
		wantApartWithin(t, "Unfold", roomsOf(u))
		w, _ := types.Write(y)
		wantApart(t, "Write", []room{roomOfText(w)}, given)
		if e != api.OK || w == "" {
			t.Errorf("Unfold(%s): %d", w, e)
		}
	}
}

func TestP2WhatIsReadIsNewMemory(t *testing.T) {
	for _, s := range []string{"end", "rec tt.+{first:tt,second:!{rec ss.!int.ss}.tt}", "rec tt.!{tt}.?{tt}.tt"} {
		s = fresh(s)
		x, _ := types.Parse(s)
		y, _, _ := types.Begin(s, 0)
		wantApart(t, "Parse", roomsOf(x), []room{roomOfText(s)})
		wantApart(t, "Begin", roomsOf(y), append(roomsOf(x), roomOfText(s)))
		wantApartWithin(t, "Parse", roomsOf(x))
	}
}

func TestP2WhatIsHandedInIsNotChanged(t *testing.T) {
	x, want := handed(), handed()
	types.Check(x)
	types.Write(x)
	types.Size(x)
	types.Unfold(x)
	body, same := x.Kids[:2][0], want.Kids[:2][0]
	if !reflect.DeepEqual(x.Kids[:2], want.Kids[:2]) || !reflect.DeepEqual(body.Labels[:3], same.Labels[:3]) || !reflect.DeepEqual(body.Kids[:3], same.Kids[:3]) || x.Name != want.Name {
		t.Errorf("changed: %v", x)
	}
}
