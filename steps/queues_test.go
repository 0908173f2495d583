package steps_test

import (
	"maps"
	"math/rand"
	"reflect"
	"slices"
	"strconv"
	"strings"
	"testing"

	"duet/api"
	"duet/exprs"
	"duet/queues"
	"duet/steps"
	"duet/values"
)

// mail is what lies in a line.
type mail struct {
	value api.Value
	label string
	given string
}

// party is a process, as the tests of queues have it. An end is `0:0c` (the child's) or `0:0p`.
type party struct {
	name     string
	at       *api.Proc
	values   map[string]api.Value
	ends     map[string]string
	children int
	lines    []string
}

// office has all lines, by the ends at which they go out.
type office struct {
	defs        map[string]api.Def
	parties     []*party
	lines       map[string][]mail
	room        int
	count, most int
}

func across(end string) string {
	name, side := end[:len(end)-1], end[len(end)-1:]
	return name + map[string]string{"c": "p", "p": "c"}[side]
}

// posted is P31 once more: before each step all processes are looked at.
func posted(p api.Program, picks []int, room int) ([]api.Said, int, int) {
	o := &office{defs: map[string]api.Def{}, lines: map[string][]mail{}, room: room}
	for _, d := range p.Defs {
		o.defs[d.Name] = d
	}
	o.parties = []*party{{name: "0", at: &p.Defs[0].Body, values: map[string]api.Value{}, ends: map[string]string{}}}
	for {
		var can []*party
		for _, q := range o.parties {
			if o.canStep(q) {
				can = append(can, q)
			}
		}
		if len(can) == 0 {
			return o.said(), o.count, o.most
		}
		k := 0
		if o.count < len(picks) {
			k = picks[o.count]
		}
		if k < 0 {
			k = -(k + 1)
		}
		o.count++
		o.step(can[k%len(can)])
	}
}

func (o *office) said() []api.Said {
	var said []api.Said
	for _, q := range o.parties {
		if q.at != nil {
			panic(q.name + " stands still")
		}
		said = append(said, api.Said{Who: q.name, Lines: q.lines})
	}
	slices.SortFunc(said, func(a, b api.Said) int { return strings.Compare(a.Who, b.Who) })
	return said
}

func (o *office) canStep(q *party) bool {
	if q.at == nil {
		return false
	}
	switch q.at.Kind {
	case api.PSend, api.PGive, api.PPick:
		return len(o.lines[q.ends[q.at.Chan]]) < o.room
	case api.PRecv, api.PTake, api.PCase:
		return len(o.lines[across(q.ends[q.at.Chan])]) > 0
	}
	return true
}

func (o *office) put(end string, m mail) {
	o.lines[end] = append(o.lines[end], m)
	for _, line := range o.lines {
		o.most = max(o.most, len(line))
	}
}

func (o *office) first(end string) mail {
	line := o.lines[across(end)]
	o.lines[across(end)] = slices.Clone(line[1:])
	return line[0]
}

func (q *party) value(x api.Expr) api.Value {
	var env []api.Bind
	for name, v := range q.values {
		env = append(env, api.Bind{Name: name, Value: v})
	}
	v, e := exprs.Eval(x, env)
	if e != api.OK {
		panic(e)
	}
	return v
}

func (o *office) step(q *party) {
	p, here := q.at, q.ends[q.at.Chan]
	if len(p.Kids) > 0 {
		q.at = &p.Kids[len(p.Kids)-1]
	}
	switch p.Kind {
	case api.Stop:
		q.at = nil
	case api.PEnd:
		delete(q.ends, p.Chan)
	case api.Let:
		q.values[p.Name] = q.value(p.Expr)
	case api.Print:
		s, _ := values.Write(q.value(p.Expr))
		q.lines = append(q.lines, s)
	case api.If:
		if q.value(p.Expr).N == 1 {
			q.at = &p.Kids[0]
		}
	case api.Call:
		o.call(q, p)
	case api.Spawn:
		o.spawn(q, p)
	case api.PSend:
		o.put(here, mail{value: q.value(p.Expr)})
	case api.PGive:
		o.put(here, mail{given: q.ends[p.Name]})
		delete(q.ends, p.Name)
	case api.PPick:
		o.put(here, mail{label: p.Label})
	case api.PRecv:
		q.values[p.Name] = o.first(here).value
	case api.PTake:
		q.ends[p.Name] = o.first(here).given
	case api.PCase:
		q.at = &p.Kids[slices.Index(p.Labels, o.first(here).label)]
	}
}

func (o *office) call(q *party, p *api.Proc) {
	d := o.defs[p.Name]
	known, ends := map[string]api.Value{}, map[string]string{}
	for i, name := range d.Values {
		known[name] = q.value(p.Exprs[i])
	}
	for i, name := range d.Chans {
		ends[name] = q.ends[p.Names[i]]
	}
	q.values, q.ends, q.at = known, ends, &d.Body
}

func (o *office) spawn(q *party, p *api.Proc) {
	k := strconv.Itoa(q.children)
	q.children++
	child := &party{name: q.name + "." + k, at: &p.Kids[0], values: maps.Clone(q.values), ends: map[string]string{}}
	for _, name := range p.Names {
		child.ends[name] = q.ends[name]
		delete(q.ends, name)
	}
	child.ends[p.Chan], q.ends[p.Chan] = q.name+":"+k+"c", q.name+":"+k+"p"
	o.parties = append(o.parties, child)
}

// longPicks are as many as there may be steps, or fewer; one of a kind is picked again and again, so that letters pile up.
func longPicks(r *rand.Rand, count int) []int {
	picks := steps.ManyPicks(r)
	for len(picks) < count && r.Intn(20) > 0 {
		k := r.Intn(9) - 3
		for range 1 + r.Intn(12) {
			picks = append(picks, k)
		}
	}
	return picks
}

// TestP31OfMany: what comes of programs that are made is what steps says, whatever the room and the picks; and the most letters are those that a look at all lines finds.
func TestP31OfMany(t *testing.T) {
	r := rand.New(rand.NewSource(31))
	seen, full := map[int]int{}, 0
	for range 400 {
		p := steps.Made(t, r)
		want, count, e := steps.Run(p, nil, api.MaxFuel)
		if e != api.OK {
			t.Fatalf("%d:\n%s", e, steps.Text(p))
		}
		for range 6 {
			room, picks := 1+r.Intn(6), longPicks(r, count)
			if r.Intn(4) == 0 {
				room = 1 + r.Intn(100)
			}
			alike, steppedTo, most := posted(p, picks, room)
			if steps.Told(alike) != steps.Told(want) || steppedTo != count {
				t.Fatalf("room %d, picks %v: %v, %d, then %v, %d:\n%s", room, picks, want, count, alike, steppedTo, steps.Text(p))
			}
			if said, n, m, e := queues.Run(p, picks, room, min(count+r.Intn(2), api.MaxFuel)); steps.Told(said) != steps.Told(want) || n != count || m != most || e != api.OK {
				t.Fatalf("room %d, picks %v: %v, %d, %d, %d, want %v, %d, %d:\n%s", room, picks, said, n, m, e, want, count, most, steps.Text(p))
			}
			for _, fuel := range []int{count - 1, r.Intn(count), 0} {
				if said, n, m, e := queues.Run(p, picks, room, fuel); said != nil || n != 0 || m != 0 || e != api.ErrLarge {
					t.Fatalf("%d of %d steps: %v, %d, %d, %d:\n%s", fuel, count, said, n, m, e, steps.Text(p))
				}
			}
			seen[most]++
			if room > 1 && most == room {
				full++
			}
		}
	}
	if seen[0] < 50 || seen[1] < 200 || seen[2] < 200 || seen[3] < 100 || seen[4] < 50 || seen[5] < 20 || full < 100 {
		t.Errorf("too few: %v, %d full", seen, full)
	}
}

// TestP2QueuesChangesNothing of what is handed in, nor of what lies behind its lists.
func TestP2QueuesChangesNothing(t *testing.T) {
	r := rand.New(rand.NewSource(312))
	for range 60 {
		p, picks := steps.RoomyProgram(steps.Made(t, r)), steps.RoomyPicks(steps.ManyPicks(r))
		before, beforePicks := steps.WholeProgram(p), slices.Clone(picks[:cap(picks)])
		for _, fuel := range []int{-1, 0, r.Intn(50), api.MaxFuel} {
			for _, room := range []int{0, 1, 1 + r.Intn(100)} {
				queues.Run(p, picks, room, fuel)
			}
		}
		if !reflect.DeepEqual(steps.WholeProgram(p), before) || !slices.Equal(picks[:cap(picks)], beforePicks) {
			t.Fatalf("changed:\n%s", steps.Text(p))
		}
	}
}
