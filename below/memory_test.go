package below_test

import (
	"reflect"
	"testing"
	"unsafe"

	"duet/api"
	"duet/below"
)

// room is where a text or a list lies, its spare room included.
type room struct{ from, to uintptr }

func roomOfText(s string) room {
	from := uintptr(unsafe.Pointer(unsafe.StringData(s)))
	return room{from, from + uintptr(len(s))}
}

func roomOf[T any](list []T) room {
	var one T
	from := uintptr(unsafe.Pointer(unsafe.SliceData(list)))
	return room{from, from + uintptr(cap(list))*unsafe.Sizeof(one)}
}

func roomsOfLabels(labels []string) []room {
	rooms := []room{roomOf(labels)}
	for _, label := range labels {
		rooms = append(rooms, roomOfText(label))
	}
	return rooms
}

func roomsOf(g []api.Node) []room {
	rooms := []room{roomOf(g)}
	for _, n := range g {
		rooms = append(append(rooms, roomOf(n.To)), roomsOfLabels(n.Labels)...)
	}
	return rooms
}

func roomsOfType(t api.Type) []room {
	rooms := append(roomsOfLabels(t.Labels), roomOf(t.Kids))
	for _, kid := range t.Kids {
		rooms = append(rooms, roomsOfType(kid)...)
	}
	return rooms
}

func wantApart(t *testing.T, what string, a, b []room) {
	t.Helper()
	for _, p := range a {
		for _, q := range b {
			if p.from < p.to && q.from < q.to && p.from < q.to && q.from < p.to {
				t.Errorf("%s: memory is shared", what)
			}
		}
	}
}

func wantApartWithin(t *testing.T, what string, a []room) {
	t.Helper()
	for i := range a {
		wantApart(t, what, a[:i], a[i:i+1])
	}
}

// fresh is a copy that the compiler can't lay beside its constants.
func fresh(s string) string { return string([]byte(s)) }

// handed is a graph whose lists have spare room, with something in it; its nodes have one list of labels, and of To.
func handed() []api.Node {
	labels := []string{fresh("first"), fresh("second"), fresh("third")}
	to := []int{1, 2, 99}
	g := []api.Node{
		{Kind: api.Pick, Labels: labels[:2], To: to[:2]}, {Kind: api.Offer, Labels: labels[:2], To: to[:2]}, {Kind: api.Give, To: to[:2]},
		{Kind: api.Take, To: to[:2]}, {Kind: 98, Labels: labels, To: to},
	}
	return g[:4]
}

// handedType is a type of which the same Kids stand in several places; one has a further label.
func handedType(last string) api.Type {
	labels := []string{fresh("first"), fresh("second"), fresh(last), fresh("zzz")}
	kids := []api.Type{{Kind: api.End}, {Kind: api.Var, Name: fresh("tt")}, {Kind: api.Var, Name: fresh("tt")}, {Kind: api.End}}
	choices := []api.Type{{Kind: api.Offer, Labels: labels[:3], Kids: kids[:3]}, {Kind: api.Offer, Labels: labels[:3], Kids: kids[:3]}, {Kind: api.End}}
	return api.Type{Kind: api.Rec, Name: fresh("tt"), Kids: []api.Type{{Kind: api.Take, Kids: choices[:2]}}}
}

func TestP2AnswersAreNewMemory(t *testing.T) {
	x, y := handedType("third"), handedType("three")
	given := append(roomsOfType(x), roomsOfType(y)...)
	for _, c := range []struct {
		name string
		call func(s, t api.Type) ([]api.Node, api.Errno)
	}{{"Join", below.Join}, {"Meet", below.Meet}} {
		for _, other := range []api.Type{x, y} {
			g, e := c.call(x, other)
			if e != api.OK || len(g) < 3 {
				t.Fatalf("%s: %v, %d", c.name, g, e)
			}
			wantApart(t, c.name, roomsOf(g), given)
			wantApartWithin(t, c.name, roomsOf(g))
		}
	}
	// The way leads over a label that was handed in.
	less := handedType("third")
	less.Kids[0].Kids[0] = api.Type{Kind: api.Offer, Labels: []string{fresh("first"), fresh("second"), fresh("third")}, Kids: []api.Type{{Kind: api.Send, Sort: 1, Kids: []api.Type{{Kind: api.End}}}, {Kind: api.End}, {Kind: api.End}}}
	way, e := below.Why(x, less)
	if e != api.OK || !reflect.DeepEqual(way, []string{"^", "first"}) {
		t.Fatalf("Why: %q, %d", way, e)
	}
	wantApart(t, "Why", roomsOfLabels(way), append(given, roomsOfType(less)...))
	again, _ := below.Why(x, less)
	wantApart(t, "Why", []room{roomOf(way)}, []room{roomOf(again)})
}

func TestP2WhatIsHandedInIsNotChanged(t *testing.T) {
	g, want := handed(), handed()
	x, y, same := handedType("third"), handedType("three"), handedType("third")
	below.Graphs(g, g)
	below.Is(x, y)
	below.Why(x, y)
	below.Join(x, y)
	below.Meet(x, y)
	if !reflect.DeepEqual(g[:5], want[:5]) || !reflect.DeepEqual(g[0].Labels[:3], want[0].Labels[:3]) || !reflect.DeepEqual(g[0].To[:3], want[0].To[:3]) {
		t.Errorf("changed: %v", g[:5])
	}
	choices, others := x.Kids[0].Kids[:3], same.Kids[0].Kids[:3]
	if !reflect.DeepEqual(x, same) || !reflect.DeepEqual(choices, others) || !reflect.DeepEqual(choices[0].Labels[:4], others[0].Labels[:4]) || !reflect.DeepEqual(choices[0].Kids[:4], others[0].Kids[:4]) {
		t.Errorf("changed: %v", x)
	}
}
