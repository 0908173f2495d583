package syntax_test

import (
	"reflect"
	"slices"
	"sync"
	"testing"
	"unsafe"

	"duet/api"
	"duet/syntax"
)

// room is where a text or a list lies, its spare room included.
type room struct{ from, to uintptr }

func roomOfText(s string) room {
	from := uintptr(unsafe.Pointer(unsafe.StringData(s)))
	return room{from, from + uintptr(len(s))}
}

func roomOf[T any](list []T) room {
	var one T
	from := uintptr(unsafe.Pointer(unsafe.SliceData(list)))
	return room{from, from + uintptr(cap(list))*unsafe.Sizeof(one)}
}

func roomsOfTexts(list []string) []room {
	rooms := []room{roomOf(list)}
	for _, s := range list {
		rooms = append(rooms, roomOfText(s))
	}
	return rooms
}

// roomsOfExpr leaves the names of operators out: the program's own constants lie under all of them.
func roomsOfExpr(x api.Expr) []room {
	rooms := []room{roomOfText(x.Value.S), roomOf(x.Kids)}
	if x.Kind == api.Name {
		rooms = append(rooms, roomOfText(x.Name))
	}
	for _, kid := range x.Kids {
		rooms = append(rooms, roomsOfExpr(kid)...)
	}
	return rooms
}

func roomsOfType(t api.Type) []room {
	rooms := append(roomsOfTexts(t.Labels), roomOfText(t.Name), roomOf(t.Kids))
	for _, kid := range t.Kids {
		rooms = append(rooms, roomsOfType(kid)...)
	}
	return rooms
}

func roomsOfProc(p api.Proc) []room {
	rooms := slices.Concat(roomsOfTexts(p.Names), roomsOfTexts(p.Labels), roomsOfExpr(p.Expr), roomsOfType(p.Type))
	rooms = append(rooms, roomOfText(p.Chan), roomOfText(p.Name), roomOfText(p.Label), roomOf(p.Exprs), roomOf(p.Kids))
	for _, x := range p.Exprs {
		rooms = append(rooms, roomsOfExpr(x)...)
	}
	for _, kid := range p.Kids {
		rooms = append(rooms, roomsOfProc(kid)...)
	}
	return rooms
}

func roomsOf(p api.Program) []room {
	rooms := []room{roomOf(p.Defs)}
	for _, d := range p.Defs {
		rooms = slices.Concat(rooms, roomsOfTexts(d.Values), roomsOfTexts(d.Chans), roomsOfProc(d.Body))
		rooms = append(rooms, roomOfText(d.Name), roomOf(d.Sorts), roomOf(d.Types))
		for _, t := range d.Types {
			rooms = append(rooms, roomsOfType(t)...)
		}
	}
	return rooms
}

func wantApart(t *testing.T, what string, a, b []room) {
	t.Helper()
	for _, p := range a {
		for _, q := range b {
			if p.from < p.to && q.from < q.to && p.from < q.to && q.from < p.to {
				t.Errorf("%s: memory is shared", what)
			}
		}
	}
}

func wantApartWithin(t *testing.T, what string, a []room) {
	t.Helper()
	for i := range a {
		wantApart(t, what, a[:i], a[i:i+1])
	}
}

// fresh is a copy that the compiler can't lay beside its constants.
func fresh(s string) string { return string([]byte(s)) }

// allKinds is a text in which each kind stands, with lists of all lengths that may share memory.
func allKinds() string {
	s := "def main(aa:int, bb:text, cc:bool; dd:rec tt.+{go:tt,no:end}, ee:!{end}.end, ff:end) = "
	for _, x := range sound() {
		s += "if xx {" + x.s + "} else {"
	}
	s += "case cc {first: stop, second: stop, third: ff(xx, yy + \"text\", zz; cc, dd, ee)}"
	for range sound() {
		s += "}"
	}
	return s + "\ndef other(aa:int) = main(1)"
}

func TestP2WhatIsReadIsNewMemory(t *testing.T) {
	s := fresh(allKinds())
	p, f := syntax.Parse(s)
	q, _ := syntax.Parse(s)
	if f.Code != api.OK {
		t.Fatal(f)
	}
	wantApart(t, "Parse", roomsOf(p), []room{roomOfText(s)})
	wantApart(t, "Parse", roomsOf(p), roomsOf(q))
	wantApartWithin(t, "Parse", roomsOf(p))
}

func TestP2WhatIsWrittenIsNewMemory(t *testing.T) {
	p, _ := syntax.Parse(allKinds())
	w, e := syntax.Write(p)
	v, _ := syntax.Write(p)
	if e != api.OK {
		t.Fatal(e)
	}
	wantApart(t, "Write", []room{roomOfText(w)}, append(roomsOf(p), roomOfText(v)))
}

// roomy is a program each list of which has spare room, with something in it.
func roomy(p api.Program) api.Program {
	out := api.Program{Defs: spare(p.Defs, api.Def{Name: "spare"})}
	for i, d := range out.Defs {
		out.Defs[i].Values, out.Defs[i].Sorts = spare(d.Values, "spare"), spare(d.Sorts, 9)
		out.Defs[i].Chans, out.Defs[i].Types = spare(d.Chans, "spare"), spare(d.Types, api.Type{Kind: 9})
		out.Defs[i].Body = roomyProc(d.Body)
	}
	return out
}

func roomyProc(p api.Proc) api.Proc {
	p.Exprs, p.Names, p.Labels, p.Kids = spare(p.Exprs, api.Expr{Kind: 9}), spare(p.Names, "spare"), spare(p.Labels, "spare"), spare(p.Kids, api.Proc{Kind: 99})
	for i, kid := range p.Kids {
		p.Kids[i] = roomyProc(kid)
	}
	return p
}

func spare[T any](list []T, behind T) []T {
	return append(slices.Clone(list), behind, behind)[:len(list)]
}

// whole is a program with what is in the spare room of its lists.
func whole(p api.Program) api.Program {
	out := api.Program{Defs: slices.Clone(p.Defs[:len(p.Defs)+2])}
	for i, d := range p.Defs {
		out.Defs[i].Values, out.Defs[i].Sorts = slices.Clone(d.Values[:len(d.Values)+2]), slices.Clone(d.Sorts[:len(d.Sorts)+2])
		out.Defs[i].Chans, out.Defs[i].Types = slices.Clone(d.Chans[:len(d.Chans)+2]), slices.Clone(d.Types[:len(d.Types)+2])
		out.Defs[i].Body = wholeProc(d.Body)
	}
	return out
}

func wholeProc(p api.Proc) api.Proc {
	kids := slices.Clone(p.Kids[:len(p.Kids)+2])
	for i, kid := range p.Kids {
		kids[i] = wholeProc(kid)
	}
	p.Exprs, p.Names, p.Labels, p.Kids = slices.Clone(p.Exprs[:len(p.Exprs)+2]), slices.Clone(p.Names[:len(p.Names)+2]), slices.Clone(p.Labels[:len(p.Labels)+2]), kids
	return p
}

func TestP2WhatIsHandedInIsNotChanged(t *testing.T) {
	read, _ := syntax.Parse(allKinds())
	p := roomy(read)
	want := whole(p)
	s, e := syntax.Write(p)
	if syntax.Shape(p) != api.OK || e != api.OK || s == "" {
		t.Fatalf("Write: %q, %d", s, e)
	}
	if !reflect.DeepEqual(whole(p), want) {
		t.Error("changed")
	}
}

func TestP2AnswersHangOnNothingElse(t *testing.T) {
	p, _ := syntax.Parse(allKinds())
	want, _ := syntax.Write(p)
	var all sync.WaitGroup
	for range 8 {
		all.Go(func() {
			for range 20 {
				q, f := syntax.Parse(want)
				s, e := syntax.Write(p)
				if f != (api.Fault{}) || !reflect.DeepEqual(p, q) || s != want || e != api.OK {
					t.Errorf("Parse: %v; Write: %d", f, e)
				}
			}
		})
	}
	all.Wait()
}
