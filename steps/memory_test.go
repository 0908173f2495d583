package steps

import (
	"math/rand"
	"reflect"
	"slices"
	"sync"
	"testing"
	"unsafe"

	"duet/api"
)

// rebuilt is a copy in new memory, of which each list has gone through list.
func rebuilt(v reflect.Value, list func(reflect.Value) reflect.Value) reflect.Value {
	out := reflect.New(v.Type()).Elem()
	out.Set(v)
	switch v.Kind() {
	case reflect.Struct:
		for i := range v.NumField() {
			out.Field(i).Set(rebuilt(v.Field(i), list))
		}
	case reflect.Slice:
		out.Set(list(v))
		for i := range out.Len() {
			out.Index(i).Set(rebuilt(out.Index(i), list))
		}
	}
	return out
}

// roomy is a copy whose lists have room behind them, in which something lies.
func roomy[T any](x T) T {
	list := func(v reflect.Value) reflect.Value {
		out := reflect.MakeSlice(v.Type(), v.Len()+2, v.Len()+2)
		reflect.Copy(out, v)
		for i := v.Len(); i < out.Len(); i++ {
			spoil(out.Index(i))
		}
		return out.Slice(0, v.Len())
	}
	return rebuilt(reflect.ValueOf(x), list).Interface().(T)
}

func spoil(v reflect.Value) {
	switch v.Kind() {
	case reflect.String:
		v.SetString("spare")
	case reflect.Int:
		v.SetInt(9)
	case reflect.Struct:
		for i := range v.NumField() {
			spoil(v.Field(i))
		}
	}
}

// whole is a copy with what lies in the room behind the lists.
func whole[T any](x T) T {
	list := func(v reflect.Value) reflect.Value {
		out := reflect.MakeSlice(v.Type(), v.Cap(), v.Cap())
		reflect.Copy(out, v.Slice(0, v.Cap()))
		return out
	}
	return rebuilt(reflect.ValueOf(x), list).Interface().(T)
}

func TestP2WhatIsHandedInIsNotChanged(t *testing.T) {
	r := rand.New(rand.NewSource(2))
	for range 60 {
		p, picks := roomy(made(t, r)), roomy(manyPicks(r))
		before, beforePicks := whole(p), whole(picks)
		for _, fuel := range []int{-1, 0, r.Intn(50), api.MaxFuel} {
			Ask(p, fuel)
			Run(p, picks, fuel)
			Logs(p, picks, fuel)
		}
		if !reflect.DeepEqual(whole(p), before) || !slices.Equal(whole(picks), beforePicks) {
			t.Fatalf("changed:\n%s", text(p))
		}
	}
}

// lent is a text over bytes that can still be changed.
func lent(bytes []byte) string { return unsafe.String(&bytes[0], len(bytes)) }

// TestP2AnswersAreNewMemory: what was handed in is changed behind the calls, its texts included.
func TestP2AnswersAreNewMemory(t *testing.T) {
	label, literal := []byte("go"), []byte("said")
	p := parsed(t, `def main() = spawn c:+{go:!text.end} () {pick c go; send c "x"; end c; stop}; case c {go: recv c x; print x; end c; stop}`)
	spawn := &p.Defs[0].Body
	spawn.Type.Labels[0], spawn.Kids[1].Labels[0] = lent(label), lent(label)
	spawn.Kids[0].Label, spawn.Kids[0].Kids[0].Expr.Value.S = lent(label), lent(literal)
	said, _, e := Run(p, nil, 99)
	logs, f := Logs(p, nil, 99)
	if e != api.OK || f != api.OK {
		t.Fatal(e, f)
	}
	copy(label, "no")
	copy(literal, "else")
	if toldSaid(said) != `0="said" 0.0=` || toldLogs(logs) != `0:0=+go,!"said"` {
		t.Errorf("%v, %v", said, logs)
	}
}

// TestP2ListsShareNothing: each list of an answer is filled up to the end of its room, and none sees what was put into another one.
func TestP2ListsShareNothing(t *testing.T) {
	p := parsed(t, "def main() = f(9)\ndef f(n:int) = print n; if n < 1 {stop} else {spawn c:!int.!int.!int.end () {print 1; print 2; print 3; send c 1; send c 2; send c 3; end c; stop}; recv c x; recv c x; recv c x; end c; f(n - 1)}")
	said, _, _ := Run(p, []int{3, 1, 2}, api.MaxFuel)
	again, _, _ := Run(p, []int{3, 1, 2}, api.MaxFuel)
	logs, _ := Logs(p, nil, api.MaxFuel)
	wantSaid, wantLogs := toldSaid(said), toldLogs(logs)
	fill := func(lines []string) {
		behind := lines[len(lines):cap(lines)]
		for i := range behind {
			behind[i] = "spare"
		}
	}
	for i := range said {
		fill(said[i].Lines)
	}
	for i := range logs {
		fill(logs[i].Lines)
	}
	if toldSaid(said) != wantSaid || toldLogs(logs) != wantLogs {
		t.Errorf("%v, %v", said, logs)
	}
	for i := range said {
		for k := range said[i].Lines {
			said[i].Lines[k] = "changed"
		}
		said[i].Who = "changed"
	}
	if toldSaid(again) != wantSaid {
		t.Errorf("%v", again)
	}
}

// TestP2AnswersHangOnNothingElse: one program is run by many at once, behind and ahead of others.
func TestP2AnswersHangOnNothingElse(t *testing.T) {
	r := rand.New(rand.NewSource(22))
	var programs []api.Program
	var answers []string
	for range 30 {
		p := made(t, r)
		said, _, _ := Run(p, nil, api.MaxFuel)
		programs, answers = append(programs, p), append(answers, toldSaid(said))
	}
	var wait sync.WaitGroup
	for g := range 8 {
		wait.Go(func() {
			for i := range programs {
				i = (i*7 + g) % len(programs)
				if said, _, e := Run(programs[i], []int{g, i, g}, api.MaxFuel); toldSaid(said) != answers[i] || e != api.OK {
					t.Errorf("%d: %v, then %s", i, said, answers[i])
				}
			}
		})
	}
	wait.Wait()
}
