package queues

import (
	"cmp"
	"slices"

	"duet/api"
	"duet/lives"
)

// run of a program that steps.Ask has passed, as far as it has come.
type run struct {
	defs  []api.Def
	room  int
	all   []*process // in the order in which they began
	able  []*process // in that order, those that can do a step: no other one's step can take that from them
	count int
	most  int
}

func begun(defs []api.Def, room int) *run {
	r := &run{defs: defs, room: room}
	r.begin(lives.First[end](defs))
	return r
}

// begin a process.
func (r *run) begin(l *lives.Life[end]) {
	p := &process{Life: l, number: len(r.all)}
	r.all = append(r.all, p)
	r.settle(p)
}

// step of the k-th of those that can do one.
func (r *run) step(k int) {
	p := r.able[k]
	r.able = slices.Delete(r.able, k, k+1)
	r.count++
	switch {
	case lives.GoesOut(p.At.Kind):
		r.letOut(p)
	case lives.ComesIn(p.At.Kind):
		r.letIn(p)
	case p.At.Kind == api.Spawn:
		r.begin(p.Spawn(channel()))
	default:
		p.Alone(r.defs, p.say)
	}
	r.settle(p)
}

func (r *run) letOut(p *process) {
	out := p.Here().out
	out.put(p.write())
	r.most = max(r.most, len(out.letters))
	r.wake(out)
	p.Next()
}

func (r *run) letIn(p *process) {
	in := p.Here().in
	p.read(in.take())
	r.wake(in)
}

// settle looks at where a process has come to: it waits at a line, or can do its next step.
func (r *run) settle(p *process) {
	if p.At == nil {
		return
	}
	here := p.Here()
	switch {
	case lives.GoesOut(p.At.Kind) && len(here.out.letters) == r.room:
		here.out.waits = p
	case lives.ComesIn(p.At.Kind) && len(here.in.letters) == 0:
		here.in.waits = p
	default:
		r.enable(p)
	}
}

// wake who waits at a line that has changed.
func (r *run) wake(l *line) {
	if l.waits != nil {
		r.enable(l.waits)
		l.waits = nil
	}
}

func (r *run) enable(p *process) {
	place, _ := slices.BinarySearchFunc(r.able, p.number, func(q *process, number int) int { return cmp.Compare(q.number, number) })
	r.able = slices.Insert(r.able, place, p)
}

func (r *run) said() []api.Said {
	said := make([]api.Said, len(r.all))
	for i, p := range r.all {
		said[i] = api.Said{Who: p.Name(), Lines: p.said}
	}
	lives.Order(said)
	return said
}
