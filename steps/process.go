package steps

import (
	"duet/api"
	"duet/lives"
)

// process of a program that check.Check has passed.
type process struct {
	*lives.Life[end]
	number int      // in the order in which processes began
	over   *channel // over which it was spawned
	lines  []string
}

func (p *process) say(line string) { p.lines = append(p.lines, line) }

// partner is who has the other end of where a process stands.
func (p *process) partner() *process { return p.Here().other().holder() }

// canMove says whether a move of its own can be made: what comes in is the move of who lets it out.
func (p *process) canMove() bool {
	switch {
	case lives.ComesIn(p.At.Kind):
		return false
	case lives.GoesOut(p.At.Kind):
		// By the types of both ends, who stands at the other one waits for just that.
		return p.partner().Here() == p.Here().other()
	}
	return true
}

// handOver does together what p lets out and q lets in.
func (p *process) handOver(q *process) {
	out, in, here := p.At, q.At, p.Here()
	switch out.Kind {
	case api.PSend:
		v := p.Value(out.Expr)
		q.Know(in.Name, v)
		q.Next()
		here.log("!", "?", lives.Written(v))
	case api.PGive:
		q.get(in.Name, p.Lose(out.Name))
		q.Next()
		here.log("!", "?", "{}")
	case api.PPick:
		q.Branch(out.Label)
		here.log("+", "&", out.Label)
	}
	p.Next()
}

// spawn is the child.
func (p *process) spawn() *process {
	over := &channel{}
	child := &process{Life: p.Spawn(end{over, childs}, end{over, parents}), over: over}
	over.holders[parents] = p
	for _, x := range child.Ends {
		x.of.holders[x.side] = child
	}
	return child
}

func (p *process) get(name string, x end) {
	p.Ends[name] = x
	x.of.holders[x.side] = p
}
