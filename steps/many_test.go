package steps

import (
	"cmp"
	"maps"
	"math/rand"
	"reflect"
	"slices"
	"strconv"
	"sync"
	"sync/atomic"
	"testing"

	"duet/api"
	"duet/exprs"
	"duet/values"
)

// letter is what goes over a channel.
type letter struct {
	value api.Value
	label string
	given *side
}

// side of a channel, as the tests have it: two ways, on which nothing waits, and, at the child's end, what was done there.
type side struct {
	out, in chan letter
	child   bool
	done    []string
}

// world is a program once more, all at once: each process is a goroutine, and nobody is told when to go on.
type world struct {
	defs  map[string]api.Def
	count atomic.Int64
	wait  sync.WaitGroup
	lock  sync.Mutex
	said  []api.Said
	logs  map[string]*side
}

// life of one process.
type life struct {
	*world
	name     string
	children int
	values   map[string]api.Value
	ends     map[string]*side
	lines    []string
}

func mixed(p api.Program) ([]api.Said, int, []api.Log) {
	w := &world{defs: map[string]api.Def{}, logs: map[string]*side{}}
	for _, d := range p.Defs {
		w.defs[d.Name] = d
	}
	w.begin(&life{world: w, name: "0", values: map[string]api.Value{}, ends: map[string]*side{}}, p.Defs[0].Body)
	w.wait.Wait()
	slices.SortFunc(w.said, func(a, b api.Said) int { return cmp.Compare(a.Who, b.Who) })
	var logs []api.Log
	for name, s := range w.logs {
		logs = append(logs, api.Log{Chan: name, Lines: s.done})
	}
	slices.SortFunc(logs, func(a, b api.Log) int { return cmp.Compare(a.Chan, b.Chan) })
	return w.said, int(w.count.Load()), logs
}

func (w *world) begin(l *life, p api.Proc) {
	w.wait.Go(func() {
		for next := &p; next != nil; {
			w.count.Add(1)
			next = l.step(*next)
		}
		w.lock.Lock()
		defer w.lock.Unlock()
		w.said = append(w.said, api.Said{Who: l.name, Lines: l.lines})
	})
}

func (l *life) value(x api.Expr) api.Value {
	var env []api.Bind
	for name, v := range l.values {
		env = append(env, api.Bind{Name: name, Value: v})
	}
	v, e := exprs.Eval(x, env)
	if e != api.OK {
		panic(e)
	}
	return v
}

func shown(v api.Value) string {
	s, e := values.Write(v)
	if e != api.OK {
		panic(e)
	}
	return s
}

// took is an end that goes.
func (l *life) took(name string) *side {
	s := l.ends[name]
	delete(l.ends, name)
	return s
}

func (s *side) note(line string) {
	if s.child {
		s.done = append(s.done, line)
	}
}

func (l *life) step(p api.Proc) *api.Proc {
	here := l.ends[p.Chan]
	switch p.Kind {
	case api.Stop:
		return nil
	case api.If:
		return &p.Kids[map[int64]int{1: 0, 0: 1}[l.value(p.Expr).N]]
	case api.Call:
		return l.called(p)
	case api.PCase:
		label := (<-here.in).label
		here.note("&" + label)
		return &p.Kids[slices.Index(p.Labels, label)]
	case api.Spawn:
		l.bear(p)
		return &p.Kids[1]
	case api.PEnd:
		l.took(p.Chan)
	case api.Let:
		l.values[p.Name] = l.value(p.Expr)
	case api.Print:
		l.lines = append(l.lines, shown(l.value(p.Expr)))
	case api.PSend:
		v := l.value(p.Expr)
		here.note("!" + shown(v))
		here.out <- letter{value: v}
	case api.PRecv:
		l.values[p.Name] = (<-here.in).value
		here.note("?" + shown(l.values[p.Name]))
	case api.PGive:
		here.note("!{}")
		here.out <- letter{given: l.took(p.Name)}
	case api.PTake:
		l.ends[p.Name] = (<-here.in).given
		here.note("?{}")
	case api.PPick:
		here.note("+" + p.Label)
		here.out <- letter{label: p.Label}
	}
	return &p.Kids[0]
}

func (l *life) called(p api.Proc) *api.Proc {
	d := l.defs[p.Name]
	known, ends := map[string]api.Value{}, map[string]*side{}
	for i, name := range d.Values {
		known[name] = l.value(p.Exprs[i])
	}
	for i, name := range d.Chans {
		ends[name] = l.ends[p.Names[i]]
	}
	l.values, l.ends = known, ends
	return &d.Body
}

func (l *life) bear(p api.Proc) {
	k := strconv.Itoa(l.children)
	l.children++
	one, other := make(chan letter), make(chan letter)
	child := &life{world: l.world, name: l.name + "." + k, values: map[string]api.Value{}, ends: map[string]*side{}}
	for name, v := range l.values {
		child.values[name] = v
	}
	for _, name := range p.Names {
		child.ends[name] = l.took(name)
	}
	child.ends[p.Chan] = &side{out: one, in: other, child: true}
	l.ends[p.Chan] = &side{out: other, in: one}
	l.lock.Lock()
	l.logs[l.name+":"+k] = child.ends[p.Chan]
	l.lock.Unlock()
	l.begin(child, p.Kids[0])
}

// emptied has no list that is nil.
func emptied(said []api.Said, logs []api.Log) (map[string][]string, map[string][]string) {
	a, b := map[string][]string{}, map[string][]string{}
	for _, s := range said {
		a[s.Who] = append([]string{}, s.Lines...)
	}
	for _, l := range logs {
		b[l.Chan] = append([]string{}, l.Lines...)
	}
	return a, b
}

// TestP29OfMany: what comes of programs that are made is what comes of them all at once, whatever is picked.
func TestP29OfMany(t *testing.T) {
	r := rand.New(rand.NewSource(29))
	processes, lines, doings := 0, 0, map[byte]int{}
	for range 500 {
		p := made(t, r)
		wantSaid, count, wantLogs := mixed(p)
		for range 3 {
			picks := manyPicks(r)
			said, n, e := Run(p, picks, min(count+r.Intn(2), api.MaxFuel))
			logs, f := Logs(p, picks, min(count+r.Intn(2), api.MaxFuel))
			if e != api.OK || f != api.OK || n != count {
				t.Fatalf("%d steps, want %d; %d, %d:\n%s", n, count, e, f, text(p))
			}
			gotA, gotB := emptied(said, logs)
			wantA, wantB := emptied(wantSaid, wantLogs)
			if !reflect.DeepEqual(gotA, wantA) || !reflect.DeepEqual(gotB, wantB) || !inOrder(said, logs) || len(said) != len(wantA) || len(logs) != len(wantB) {
				t.Fatalf("%v, %v, want %v, %v:\n%s", said, logs, wantSaid, wantLogs, text(p))
			}
			short := count - 1 - r.Intn(count)
			if said, n, e := Run(p, picks, short); said != nil || n != 0 || e != api.ErrLarge {
				t.Fatalf("%d of %d steps: %v, %d, %d:\n%s", short, count, said, n, e, text(p))
			}
			if logs, e := Logs(p, picks, short); logs != nil || e != api.ErrLarge {
				t.Fatalf("%d of %d steps: %v, %d:\n%s", short, count, logs, e, text(p))
			}
		}
		processes += len(wantSaid)
		for _, s := range wantSaid {
			lines += len(s.Lines)
		}
		for _, l := range wantLogs {
			for _, line := range l.Lines {
				doings[line[0]]++
			}
		}
	}
	if processes < 2000 || lines < 2000 || len(doings) != 4 || slices.Min(slices.Collect(maps.Values(doings))) < 200 {
		t.Errorf("too few: %d processes, %d lines, %v", processes, lines, doings)
	}
}

// inOrder of the bytes of names.
func inOrder(said []api.Said, logs []api.Log) bool {
	return slices.IsSortedFunc(said, func(a, b api.Said) int { return cmp.Compare(a.Who, b.Who) }) && slices.IsSortedFunc(logs, func(a, b api.Log) int { return cmp.Compare(a.Chan, b.Chan) })
}
