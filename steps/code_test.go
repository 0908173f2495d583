package steps_test

import (
	"math"
	"math/rand"
	"reflect"
	"testing"

	"duet/api"
	"duet/code"
	"duet/steps"
)

// processesIn are all that a process has in it, and itself.
func processesIn(p api.Proc) int {
	n := 1
	for _, kid := range p.Kids {
		n += processesIn(kid)
	}
	return n
}

// TestP32OfMany: what comes of programs that are made is the same step by step and as instructions, whatever the turn, again and again.
func TestP32OfMany(t *testing.T) {
	r := rand.New(rand.NewSource(32))
	processes, lines := 0, 0
	for range 500 {
		p := steps.Made(t, r)
		want, count, e := steps.Run(p, nil, api.MaxFuel)
		c, f := code.Compile(p)
		if e != api.OK || f != api.OK {
			t.Fatalf("%d, %d:\n%s", e, f, steps.Text(p))
		}
		size := 0
		for _, d := range p.Defs {
			size += processesIn(d.Body)
		}
		for _, turn := range []int{1, 2, 3, 4 + r.Intn(20), api.MaxFuel, math.MaxInt} {
			for _, fuel := range []int{count, count + r.Intn(api.MaxFuel-count+1)} {
				if said, n, e := c.Run(turn, fuel); steps.Told(said) != steps.Told(want) || n != count || e != api.OK {
					t.Fatalf("%v, %d, %d, want %v, %d:\n%s", said, n, e, want, count, steps.Text(p))
				}
			}
			for _, fuel := range []int{count - 1, r.Intn(count), 0} {
				if said, n, e := c.Run(turn, fuel); said != nil || n != 0 || e != api.ErrLarge {
					t.Fatalf("%d of %d steps: %v, %d, %d:\n%s", fuel, count, said, n, e, steps.Text(p))
				}
			}
		}
		if c.Size() != size {
			t.Fatalf("%d instructions, want %d:\n%s", c.Size(), size, steps.Text(p))
		}
		processes += len(want)
		for _, s := range want {
			lines += len(s.Lines)
		}
	}
	if processes < 2000 || lines < 2000 {
		t.Errorf("too few: %d processes, %d lines", processes, lines)
	}
}

// TestP2CodeChangesNothing of what is handed in, nor of what lies behind its lists.
func TestP2CodeChangesNothing(t *testing.T) {
	r := rand.New(rand.NewSource(322))
	for range 60 {
		p := steps.RoomyProgram(steps.Made(t, r))
		before := steps.WholeProgram(p)
		c, e := code.Compile(p)
		if e != api.OK {
			t.Fatalf("%d:\n%s", e, steps.Text(p))
		}
		for _, fuel := range []int{-1, 0, r.Intn(50), api.MaxFuel} {
			c.Run(1+r.Intn(5), fuel)
		}
		if !reflect.DeepEqual(steps.WholeProgram(p), before) {
			t.Fatalf("changed:\n%s", steps.Text(p))
		}
	}
}
