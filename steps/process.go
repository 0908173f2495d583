package steps

import (
	"slices"
	"strconv"
	"strings"

	"duet/api"
	"duet/exprs"
	"duet/values"
)

// process of a program that check.Check has passed: so what it looks for is there, and what it reckons has a value.
type process struct {
	number   int // in the order in which processes began
	parent   *process
	rank     int      // among the children of its parent
	over     *channel // over which it was spawned
	children int
	at       *api.Proc // what it does next; nil, if it is over
	values   []api.Bind
	ends     map[string]end
	lines    []string
}

// name is put together only when it is told: of a program that goes on for ever names may grow and grow.
func (p *process) name() string {
	var ranks []string
	for ; p != nil; p = p.parent {
		ranks = append(ranks, strconv.Itoa(p.rank))
	}
	slices.Reverse(ranks)
	return strings.Join(ranks, ".")
}

// channelName is that of the channel over which a process was spawned.
func (p *process) channelName() string { return p.parent.name() + ":" + strconv.Itoa(p.rank) }

// here is the end at which a process stands.
func (p *process) here() end { return p.ends[p.at.Chan] }

// partner is who has the other end of where a process stands.
func (p *process) partner() *process { return p.here().other().holder() }

// canMove says whether a move of its own can be made: what comes in is the move of who lets it out.
func (p *process) canMove() bool {
	switch {
	case comesIn(p.at.Kind):
		return false
	case goesOut(p.at.Kind):
		// By the types of both ends, who stands at the other one waits for just that.
		return p.partner().here() == p.here().other()
	}
	return true
}

// handOver does together what p lets out and q lets in.
func (p *process) handOver(q *process) {
	out, in, here := p.at, q.at, p.here()
	p.at, q.at = next(out), next(in)
	switch out.Kind {
	case api.PSend:
		v := p.value(out.Expr)
		q.know(in.Name, v)
		here.log("!", "?", written(v))
	case api.PGive:
		q.get(in.Name, p.lose(out.Name))
		here.log("!", "?", "{}")
	case api.PPick:
		q.at = &in.Kids[slices.Index(in.Labels, out.Label)]
		here.log("+", "&", out.Label)
	}
}

// spawn is the child.
func (p *process) spawn() *process {
	at := p.at
	child := &process{parent: p, rank: p.children, over: &channel{}, at: &at.Kids[0], values: slices.Clone(p.values), ends: map[string]end{}}
	for _, name := range at.Names {
		child.get(name, p.lose(name))
	}
	child.get(at.Chan, end{child.over, childs})
	p.get(at.Chan, end{child.over, parents})
	p.children++
	p.at = next(at)
	return child
}

func (p *process) call(d *api.Def) {
	var known []api.Bind
	for i, name := range d.Values {
		known = append(known, api.Bind{Name: name, Value: p.value(p.at.Exprs[i])})
	}
	ends := map[string]end{}
	for i, name := range d.Chans {
		ends[name] = p.ends[p.at.Names[i]]
	}
	p.values, p.ends, p.at = known, ends, &d.Body
}

func (p *process) value(x api.Expr) api.Value {
	v, _ := exprs.Eval(x, p.values)
	return v
}

func (p *process) know(name string, v api.Value) {
	p.values = append(p.values, api.Bind{Name: name, Value: v})
}

func (p *process) get(name string, x end) {
	p.ends[name] = x
	x.of.holders[x.side] = p
}

func (p *process) lose(name string) end {
	x := p.ends[name]
	delete(p.ends, name)
	return x
}

// next is what comes next, of the kinds that have it.
func next(at *api.Proc) *api.Proc { return &at.Kids[len(at.Kids)-1] }

func written(v api.Value) string {
	text, _ := values.Write(v)
	return text
}
