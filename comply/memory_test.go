package comply_test

import (
	"reflect"
	"testing"
	"unsafe"

	"duet/api"
	"duet/comply"
)

// room is where a text or a list lies, its spare room included.
type room struct{ from, to uintptr }

func roomOfText(s string) room {
	from := uintptr(unsafe.Pointer(unsafe.StringData(s)))
	return room{from, from + uintptr(len(s))}
}

func roomOf[T any](list []T) room {
	var one T
	from := uintptr(unsafe.Pointer(unsafe.SliceData(list)))
	return room{from, from + uintptr(cap(list))*unsafe.Sizeof(one)}
}

func roomsOfLabels(labels []string) []room {
	rooms := []room{roomOf(labels)}
	for _, label := range labels {
		rooms = append(rooms, roomOfText(label))
	}
	return rooms
}

func roomsOfType(t api.Type) []room {
	rooms := append(roomsOfLabels(t.Labels), roomOf(t.Kids))
	for _, kid := range t.Kids {
		rooms = append(rooms, roomsOfType(kid)...)
	}
	return rooms
}

func wantApart(t *testing.T, what string, a, b []room) {
	t.Helper()
	for _, p := range a {
		for _, q := range b {
			if p.from < p.to && q.from < q.to && p.from < q.to && q.from < p.to {
				t.Errorf("%s: memory is shared", what)
			}
		}
	}
}

// fresh is a copy that the compiler can't lay beside its constants.
func fresh(s string) string { return string([]byte(s)) }

// handed is a choice whose lists have spare room, with something in it; behind the label second it does what is said.
func handed(kind, second int) api.Type {
	labels := []string{fresh("first"), fresh("second"), fresh("third")}
	kids := []api.Type{{Kind: api.End}, {Kind: second, Sort: 1, Kids: []api.Type{{Kind: api.End}}}, {Kind: 99}}
	return api.Type{Kind: kind, Labels: labels[:2], Kids: kids[:2]}
}

func TestP2AnswersAreNewMemory(t *testing.T) {
	x, y := handed(api.Pick, api.Send), handed(api.Offer, api.Send)
	given := append(roomsOfType(x), roomsOfType(y)...)
	way, e := comply.Stuck(x, y)
	if e != api.OK || !reflect.DeepEqual(way, []string{"second"}) {
		t.Fatalf("Stuck: %q, %d", way, e)
	}
	wantApart(t, "Stuck", roomsOfLabels(way), given)
	again, _ := comply.Stuck(x, y)
	wantApart(t, "Stuck", []room{roomOf(way)}, []room{roomOf(again)})
}

func TestP2WhatIsHandedInIsNotChanged(t *testing.T) {
	for _, second := range []int{api.Send, api.Recv} {
		x, y := handed(api.Pick, api.Send), handed(api.Offer, second)
		same, other := handed(api.Pick, api.Send), handed(api.Offer, second)
		comply.Do(x, y)
		comply.Stuck(x, y)
		comply.Ends(x, y)
		for _, pair := range [][2]api.Type{{x, same}, {y, other}} {
			if got, want := pair[0], pair[1]; !reflect.DeepEqual(got, want) || !reflect.DeepEqual(got.Labels[:3], want.Labels[:3]) || !reflect.DeepEqual(got.Kids[:3], want.Kids[:3]) {
				t.Errorf("changed: %v", got)
			}
		}
	}
}
