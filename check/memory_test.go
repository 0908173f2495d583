package check_test

import (
	"math/rand"
	"reflect"
	"slices"
	"sync"
	"testing"

	"duet/api"
	"duet/check"
)

// spare is a copy of a list with room behind it, in which something lies.
func spare[T any](list []T, behind T) []T {
	return append(slices.Clone(list), behind, behind)[:len(list)]
}

// roomy is a program each list of which has such room.
func roomy(p api.Program) api.Program {
	out := api.Program{Defs: spare(p.Defs, api.Def{Name: "spare"})}
	for i := range out.Defs {
		d := &out.Defs[i]
		d.Values, d.Sorts = spare(d.Values, "spare"), spare(d.Sorts, 9)
		d.Chans, d.Types = spare(d.Chans, "spare"), spare(d.Types, api.Type{Kind: 9})
		for k, t := range d.Types {
			d.Types[k] = roomyType(t)
		}
		d.Body = roomyProc(d.Body)
	}
	return out
}

func roomyProc(p api.Proc) api.Proc {
	p.Exprs, p.Names, p.Labels, p.Kids = spare(p.Exprs, api.Expr{Kind: 9}), spare(p.Names, "spare"), spare(p.Labels, "spare"), spare(p.Kids, api.Proc{Kind: 99})
	p.Type = roomyType(p.Type)
	for i, kid := range p.Kids {
		p.Kids[i] = roomyProc(kid)
	}
	return p
}

func roomyType(t api.Type) api.Type {
	t.Labels, t.Kids = spare(t.Labels, "spare"), spare(t.Kids, api.Type{Kind: 9})
	for i, kid := range t.Kids {
		t.Kids[i] = roomyType(kid)
	}
	return t
}

// whole is a copy of a roomy program, with what lies in the room behind its lists.
func whole(p api.Program) api.Program {
	out := api.Program{Defs: all(p.Defs)}
	for i := range p.Defs {
		d := &out.Defs[i]
		d.Values, d.Sorts, d.Chans, d.Types = all(d.Values), all(d.Sorts), all(d.Chans), all(d.Types)
		for k := range p.Defs[i].Types {
			d.Types[k] = wholeType(d.Types[k])
		}
		d.Body = wholeProc(d.Body)
	}
	return out
}

func all[T any](list []T) []T { return slices.Clone(list[:len(list)+2]) }

func wholeProc(p api.Proc) api.Proc {
	kids := all(p.Kids)
	for i, kid := range p.Kids {
		kids[i] = wholeProc(kid)
	}
	p.Exprs, p.Names, p.Labels, p.Kids, p.Type = all(p.Exprs), all(p.Names), all(p.Labels), kids, wholeType(p.Type)
	return p
}

func wholeType(t api.Type) api.Type {
	kids := all(t.Kids)
	for i, kid := range t.Kids {
		kids[i] = wholeType(kid)
	}
	t.Labels, t.Kids = all(t.Labels), kids
	return t
}

func TestP2WhatIsHandedInIsNotChanged(t *testing.T) {
	r := rand.New(rand.NewSource(2))
	for range 200 {
		m := &maker{Rand: r, defs: made(r).Defs}
		for range r.Intn(2) {
			m.spoil()
		}
		p := roomy(api.Program{Defs: m.defs})
		before := whole(p)
		check.Check(p)
		if !reflect.DeepEqual(whole(p), before) {
			t.Fatalf("changed:\n%s", text(p))
		}
	}
}

// TestP2KidsDoNotSeeEachOther: the lists of a definition have room behind them, into which no Kid writes what the other one reads.
func TestP2KidsDoNotSeeEachOther(t *testing.T) {
	p := roomy(parsed(t, "def main() = stop\ndef f(x:int, b:bool; c:&{a:?int.end,b:?bool.end}) = case c {a: recv c y; if b {let z = true; if z {end c; stop} else {end c; stop}} else {let z = 1; print z + y; end c; stop}, b: recv c y; if y {end c; stop} else {let b = 1; print b + x; end c; stop}}"))
	if e, k := check.Check(p); e != api.OK || k != 0 {
		t.Errorf("%d in %d", e, k)
	}
}

// TestP2AnswersHangOnNothingElse: one program is looked at by many at once, behind and ahead of others.
func TestP2AnswersHangOnNothingElse(t *testing.T) {
	r := rand.New(rand.NewSource(22))
	type answer struct {
		e api.Errno
		k int
	}
	var programs []api.Program
	var answers []answer
	for range 60 {
		m := &maker{Rand: r, defs: made(r).Defs}
		m.spoil()
		p := api.Program{Defs: m.defs}
		e, k := check.Check(p)
		programs, answers = append(programs, p), append(answers, answer{e, k})
	}
	var wait sync.WaitGroup
	for g := range 8 {
		wait.Go(func() {
			for i := range programs {
				i = (i*7 + g) % len(programs)
				if e, k := check.Check(programs[i]); (answer{e, k}) != answers[i] {
					t.Errorf("%d: %d in %d, then %v", i, e, k, answers[i])
				}
			}
		})
	}
	wait.Wait()
}
