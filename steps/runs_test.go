package steps_test

import (
	"math/rand"
	"reflect"
	"runtime"
	"testing"

	"duet/api"
	"duet/runs"
	"duet/steps"
)

// TestP30OfMany: what comes of programs that are made is the same step by step and all at once, on however many processors.
func TestP30OfMany(t *testing.T) {
	r := rand.New(rand.NewSource(30))
	defer runtime.GOMAXPROCS(runtime.GOMAXPROCS(0))
	processes, lines := 0, 0
	for k := range 500 {
		runtime.GOMAXPROCS(1 + k%4*3)
		p := steps.Made(t, r)
		want, count, e := steps.Run(p, nil, api.MaxFuel)
		if e != api.OK {
			t.Fatalf("%d:\n%s", e, steps.Text(p))
		}
		for _, fuel := range []int{count, count + r.Intn(api.MaxFuel-count+1), api.MaxFuel} {
			if said, n, e := runs.Run(p, fuel); steps.Told(said) != steps.Told(want) || n != count || e != api.OK {
				t.Fatalf("%v, %d, %d, want %v, %d:\n%s", said, n, e, want, count, steps.Text(p))
			}
		}
		for _, fuel := range []int{count - 1, r.Intn(count), 0} {
			if said, n, e := runs.Run(p, fuel); said != nil || n != 0 || e != api.ErrLarge {
				t.Fatalf("%d of %d steps: %v, %d, %d:\n%s", fuel, count, said, n, e, steps.Text(p))
			}
		}
		processes += len(want)
		for _, s := range want {
			lines += len(s.Lines)
		}
	}
	if processes < 2000 || lines < 2000 {
		t.Errorf("too few: %d processes, %d lines", processes, lines)
	}
}

// TestP2RunsChangesNothing of what is handed in, nor of what lies behind its lists.
func TestP2RunsChangesNothing(t *testing.T) {
	r := rand.New(rand.NewSource(302))
	for range 60 {
		p := steps.RoomyProgram(steps.Made(t, r))
		before := steps.WholeProgram(p)
		for _, fuel := range []int{-1, 0, r.Intn(50), api.MaxFuel} {
			runs.Run(p, fuel)
		}
		if !reflect.DeepEqual(steps.WholeProgram(p), before) {
			t.Fatalf("changed:\n%s", steps.Text(p))
		}
	}
}
