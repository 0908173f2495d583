package steps

import (
	"cmp"
	"slices"

	"duet/api"
	"duet/lives"
)

// run of a program that check.Check has passed, as far as it has come.
type run struct {
	defs   []api.Def
	all    []*process // in the order in which they began
	movers []*process // in that order, those whose moves can be made
	steps  int
}

func begun(defs []api.Def) *run {
	first := &process{Life: lives.First[end](defs)}
	r := &run{defs: defs, all: []*process{first}}
	r.settle(first)
	return r
}

// move makes the k-th of the moves that can be made.
func (r *run) move(k int) {
	p := r.movers[k]
	r.movers = slices.Delete(r.movers, k, k+1)
	switch {
	case lives.GoesOut(p.At.Kind):
		r.moveBoth(p, p.partner())
	case p.At.Kind == api.Spawn:
		r.moveSpawn(p)
	default:
		r.steps++
		p.Alone(r.defs, p.say)
		r.settle(p)
	}
}

func (r *run) moveBoth(p, q *process) {
	r.steps += 2
	p.handOver(q)
	r.settle(p)
	r.settle(q)
}

func (r *run) moveSpawn(p *process) {
	r.steps++
	child := p.spawn()
	child.number = len(r.all)
	r.all = append(r.all, child)
	r.settle(p)
	r.settle(child)
}

// settle looks at where a process has come to. Only its own move may be new, or, if something comes in to it there, that of the one at the other end.
func (r *run) settle(p *process) {
	if p.At == nil {
		return
	}
	if lives.ComesIn(p.At.Kind) {
		p = p.partner()
	}
	place, known := slices.BinarySearchFunc(r.movers, p.number, func(m *process, number int) int { return cmp.Compare(m.number, number) })
	if !known && p.canMove() {
		r.movers = slices.Insert(r.movers, place, p)
	}
}
