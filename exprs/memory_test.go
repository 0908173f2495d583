package exprs_test

import (
	"reflect"
	"strings"
	"testing"
	"unsafe"

	"duet/api"
	"duet/exprs"
)

// room is where a text or a list lies, its spare room included.
type room struct{ from, to uintptr }

func roomOfText(s string) room {
	from := uintptr(unsafe.Pointer(unsafe.StringData(s)))
	return room{from, from + uintptr(len(s))}
}

func roomOfKids(kids []api.Expr) room {
	from := uintptr(unsafe.Pointer(unsafe.SliceData(kids)))
	return room{from, from + uintptr(cap(kids))*unsafe.Sizeof(api.Expr{})}
}

// roomsOf leaves the names of operators out: the program's own constants lie under all of them.
func roomsOf(x api.Expr) []room {
	rooms := []room{roomOfText(x.Value.S), roomOfKids(x.Kids)}
	if x.Kind == api.Name {
		rooms = append(rooms, roomOfText(x.Name))
	}
	for _, kid := range x.Kids {
		rooms = append(rooms, roomsOf(kid)...)
	}
	return rooms
}

func wantApart(t *testing.T, what string, a, b []room) {
	t.Helper()
	for _, p := range a {
		for _, q := range b {
			if p.from < p.to && q.from < q.to && p.from < q.to && q.from < p.to {
				t.Errorf("%s: memory is shared", what)
			}
		}
	}
}

func wantApartWithin(t *testing.T, what string, a []room) {
	t.Helper()
	for i := range a {
		wantApart(t, what, a[:i], a[i:i+1])
	}
}

// fresh is a copy that the compiler can't lay beside its constants.
func fresh(s string) string { return string([]byte(s)) }

// handed is an expression whose Kids have spare room, with something in it.
func handed() api.Expr {
	three := []api.Expr{{Kind: api.Name, Name: fresh("xy")}, {Kind: api.Lit, Value: text(fresh("text"))}, lit(number(9))}
	inner := api.Expr{Kind: api.Op, Name: fresh("++"), Kids: three[:2]}
	four := []api.Expr{inner, {Kind: api.Name, Name: fresh("xy")}, lit(number(8)), lit(number(7))}
	return api.Expr{Kind: api.Op, Name: fresh("=="), Kids: four[:2]}
}

func TestP2AnswersAreNewMemory(t *testing.T) {
	x := handed()
	v := text(fresh("value"))
	given := append(roomsOf(x), roomOfText(v.S))
	for _, n := range []string{"xy", "other"} {
		y, _ := exprs.Put(x, n, v)
		wantApart(t, "Put", roomsOf(y), given)
		wantApartWithin(t, "Put", roomsOf(y))
	}
	for _, z := range []api.Expr{x, x.Kids[0], x.Kids[0].Kids[0], x.Kids[0].Kids[1], op("++", x.Kids[0].Kids[1], lit(text("")))} {
		y, _ := exprs.Fold(z)
		wantApart(t, "Fold", roomsOf(y), given)
		wantApartWithin(t, "Fold", roomsOf(y))
		u, _ := exprs.Eval(z, []api.Bind{{Name: "xy", Value: v}})
		wantApart(t, "Eval", []room{roomOfText(u.S)}, given)
		w, _ := exprs.Write(z)
		wantApart(t, "Write", []room{roomOfText(w)}, given)
		names, _ := exprs.Names(z)
		for _, n := range names {
			wantApart(t, "Names", []room{roomOfText(n)}, given)
		}
	}
}

func TestP2WhatIsReadIsNewMemory(t *testing.T) {
	for _, s := range []string{"xy", `"text"`, `not xy == "text" ++ zz and xy`} {
		s = fresh(s)
		x, _ := exprs.Parse(s)
		y, _, _ := exprs.Begin(s, 0)
		wantApart(t, "Parse", roomsOf(x), []room{roomOfText(s)})
		wantApart(t, "Begin", roomsOf(y), append(roomsOf(x), roomOfText(s)))
		wantApartWithin(t, "Parse", roomsOf(x))
	}
}

func TestP2WhatIsHandedInIsNotChanged(t *testing.T) {
	x, want := handed(), handed()
	names, sorts := []string{"xy", "xy", "b"}, []int{api.Int, api.Text, api.Bool}
	env := []api.Bind{{Name: "xy", Value: number(1)}, {Name: "xy", Value: text("t")}, {Name: "b", Value: truth(1)}}
	exprs.Check(x)
	exprs.Write(x)
	exprs.Sort(x, names[:2], sorts[:2])
	exprs.Eval(x, env[:2])
	exprs.Put(x, "xy", text("t"))
	exprs.Names(x)
	exprs.Fold(x)
	if !reflect.DeepEqual(x.Kids[:4], want.Kids[:4]) || !reflect.DeepEqual(x.Kids[0].Kids[:3], want.Kids[0].Kids[:3]) || x.Name != want.Name {
		t.Errorf("changed: %v", x)
	}
	if strings.Join(names, " ") != "xy xy b" || !reflect.DeepEqual(sorts, []int{1, 3, 2}) || env[0].Value != number(1) || env[2] != (api.Bind{Name: "b", Value: truth(1)}) {
		t.Errorf("changed: %v, %v, %v", names, sorts, env)
	}
}
