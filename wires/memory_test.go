package wires_test

import (
	"reflect"
	"slices"
	"testing"
	"unsafe"

	"duet/api"
	"duet/wires"
)

// room is where a text or a list lies, its spare room included.
type room struct{ from, to uintptr }

func roomOfText(s string) room {
	from := uintptr(unsafe.Pointer(unsafe.StringData(s)))
	return room{from, from + uintptr(len(s))}
}

func roomOf[T any](list []T) room {
	var one T
	from := uintptr(unsafe.Pointer(unsafe.SliceData(list)))
	return room{from, from + uintptr(cap(list))*unsafe.Sizeof(one)}
}

func roomsOfType(t api.Type) []room {
	rooms := []room{roomOfText(t.Name), roomOf(t.Labels), roomOf(t.Kids)}
	for _, label := range t.Labels {
		rooms = append(rooms, roomOfText(label))
	}
	for _, kid := range t.Kids {
		rooms = append(rooms, roomsOfType(kid)...)
	}
	return rooms
}

func roomsOf(l []api.Event) []room {
	rooms := []room{roomOf(l)}
	for _, x := range l {
		rooms = append(rooms, roomOfText(x.Label), roomOfText(x.Value.S))
		rooms = append(rooms, roomsOfType(x.Carry)...)
	}
	return rooms
}

func wantApart(t *testing.T, what string, a, b []room) {
	t.Helper()
	for _, p := range a {
		for _, q := range b {
			if p.from < p.to && q.from < q.to && p.from < q.to && q.from < p.to {
				t.Errorf("%s: memory is shared", what)
			}
		}
	}
}

func wantApartWithin(t *testing.T, what string, a []room) {
	t.Helper()
	for i := range a {
		wantApart(t, what, a[:i], a[i:i+1])
	}
}

// fresh is a copy that the compiler can't lay beside its constants.
func fresh(s string) string { return string([]byte(s)) }

// bytesOfAll is each single event, twice.
func bytesOfAll() string {
	s := ""
	for _, x := range written() {
		s += x.s
	}
	return fresh(s + s)
}

func TestP2WhatIsReadIsNewMemory(t *testing.T) {
	s := bytesOfAll()
	l, f := wires.Read(s)
	m, g := wires.Read(s)
	if f.Code != api.OK || g.Code != api.OK || !reflect.DeepEqual(l, m) {
		t.Fatal(f, g)
	}
	wantApart(t, "Read", roomsOf(l), []room{roomOfText(s)})
	wantApart(t, "Read twice", roomsOf(l), roomsOf(m))
	wantApartWithin(t, "Read", roomsOf(l))
}

func TestP2WhatIsWrittenIsNewMemory(t *testing.T) {
	for _, x := range written() {
		x.x.Label, x.x.Value.S = fresh(x.x.Label), fresh(x.x.Value.S)
		l := []api.Event{x.x}
		s, _ := wires.Write(l)
		again, _ := wires.Write(l)
		wantApart(t, "Write", []room{roomOfText(s)}, append(roomsOf(l), roomOfText(again)))
	}
}

// handed is a list with spare room, with something in it; so have the lists in it.
func handed() []api.Event {
	labels := []string{"first", "second", "third"}
	kids := []api.Type{{Kind: api.Recv, Sort: api.Int, Kids: []api.Type{{Kind: api.End}}}, {Kind: api.End}, {Kind: 99}}
	carried := api.Type{Kind: api.Pick, Labels: labels[:2], Kids: kids[:2]}
	return []api.Event{{Kind: api.Give, Carry: carried, Label: "not looked at"}, text(api.Send, "x"), label(api.Pick, "go"), {Kind: 99, Label: "spare"}}
}

func TestP2WhatIsHandedInIsNotChanged(t *testing.T) {
	l, same := handed(), handed()
	for size := range len(l) + 1 {
		wires.Write(l[:size])
	}
	x, y := l[0].Carry, same[0].Carry
	if !reflect.DeepEqual(l, same) || !reflect.DeepEqual(x.Labels[:3], y.Labels[:3]) || !reflect.DeepEqual(x.Kids[:3], y.Kids[:3]) {
		t.Errorf("changed: %v", l)
	}
}

// TestP2WhatIsHandedInIsNotKept: all of it is changed behind the calls.
func TestP2WhatIsHandedInIsNotKept(t *testing.T) {
	bytes := []byte(bytesOfAll())
	want, _ := wires.Read(string(bytes))
	l, _ := wires.Read(unsafe.String(&bytes[0], len(bytes)))
	clear(bytes)
	if !reflect.DeepEqual(l, want) {
		t.Errorf("%v, want %v", l, want)
	}
	name := []byte("go")
	x := []api.Event{label(api.Pick, unsafe.String(&name[0], len(name)))}
	s, _ := wires.Write(x)
	clear(name)
	x[0].Kind = 99
	if s != "\x06\x02go" {
		t.Errorf("%q", s)
	}
	if again, _ := wires.Write(slices.Clone(handed()[2:3])); again != s {
		t.Errorf("%q, want %q", again, s)
	}
}
