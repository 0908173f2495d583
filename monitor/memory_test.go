package monitor_test

import (
	"reflect"
	"testing"
	"unsafe"

	"duet/api"
	"duet/monitor"
)

// lent is a text over bytes that can still be changed.
func lent(bytes []byte) string { return unsafe.String(&bytes[0], len(bytes)) }

// handed is a type whose lists have spare room, with something in it: +{first:?int.end,second:end}.
func handed(first, second string) api.Type {
	labels := []string{first, second, "third"}
	kids := []api.Type{{Kind: api.Recv, Sort: api.Int, Kids: []api.Type{{Kind: api.End}}}, {Kind: api.End}, {Kind: 99}}
	return api.Type{Kind: api.Pick, Labels: labels[:2], Kids: kids[:2]}
}

// TestP2WhatIsHandedInIsNotKept: all of it is changed behind New, and behind each event.
func TestP2WhatIsHandedInIsNotKept(t *testing.T) {
	first, second := []byte("first"), []byte("second")
	x := handed(lent(first), lent(second))
	m, e := monitor.New(x)
	if e != api.OK {
		t.Fatal(e)
	}
	first[0], second[0] = 'x', 'x'
	x.Labels[0], x.Labels[1] = "a", "b"
	x.Kids[0].Kids[0].Kind = api.Rec
	x.Kids[0].Sort, x.Kids[1].Kind = api.Bool, api.Send
	label := []byte("first")
	if v, e := m.Take(api.Event{Kind: api.Pick, Label: lent(label)}); v != 0 || e != api.OK {
		t.Errorf("Take of a label: %d, %d", v, e)
	}
	label[0] = 'x'
	if v, e := m.Take(api.Event{Kind: api.Recv, Value: api.Value{Sort: api.Int}}); v != 0 || e != api.OK {
		t.Errorf("Take of a value: %d, %d", v, e)
	}
	if got, want := see(m), (seen{2, 0, true, api.End}); got != want {
		t.Errorf("%v, want %v", got, want)
	}
}

func TestP2WhatIsHandedInIsNotChanged(t *testing.T) {
	x, same := handed("first", "second"), handed("first", "second")
	monitor.New(x)
	m := begun(t, "rec t.?{+{first:?int.end}}.t")
	for _, blamed := range []string{"", "?1"} {
		if blamed != "" {
			m.Take(event(t, blamed))
		}
		m.Take(api.Event{Kind: api.Take, Carry: x})
		m.Take(api.Event{Kind: api.Give, Carry: x})
		m.Take(api.Event{Kind: api.Pick, Carry: x})
	}
	if !reflect.DeepEqual(x, same) || !reflect.DeepEqual(x.Labels[:3], same.Labels[:3]) || !reflect.DeepEqual(x.Kids[:3], same.Kids[:3]) {
		t.Errorf("changed: %v", x)
	}
}

// TestP2EachGoesItsOwnWay: nothing is kept but by the Monitor itself.
func TestP2EachGoesItsOwnWay(t *testing.T) {
	x := parsed(t, "rec t.!int.?int.t")
	one, _ := monitor.New(x)
	other, _ := monitor.New(x)
	one.Take(event(t, "!1"))
	copied := *one
	if v, _ := other.Take(event(t, "?1")); v != 2 {
		t.Errorf("%d is to blame", v)
	}
	if v, _ := copied.Take(event(t, "!1")); v != 1 {
		t.Errorf("%d is to blame", v)
	}
	if v, _ := one.Take(event(t, "?1")); v != 0 {
		t.Errorf("%d is to blame", v)
	}
	for i, x := range []struct {
		m    *monitor.Monitor
		want seen
	}{{one, seen{2, 0, false, api.Send}}, {other, seen{0, 2, false, 0}}, {&copied, seen{1, 1, false, 0}}} {
		if got := see(x.m); got != x.want {
			t.Errorf("%d: %v, want %v", i, got, x.want)
		}
	}
}
