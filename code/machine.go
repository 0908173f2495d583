package code

import (
	"slices"

	"duet/api"
	"duet/lives"
)

// machine in which a code runs, as far as it has come.
type machine struct {
	*Code
	turn  int
	fuel  int
	all   []*process // in the order in which they began
	ready []*process // whose turn it is, one after the other: all but those that wait at a channel, and those that are over (one may come here once more, to find that out)
	count int        // of steps
}

// process that stands at a place in the list; behind all of it, if it is over.
type process struct {
	*lives.Self[*channel]
	at    int
	lines []string
}

// channel, both ends of which are this one, as by their types what goes out at the one comes in at the other. A process waits there till another one has come to the other end.
type channel struct{ waits *process }

func (p *process) say(line string) { p.lines = append(p.lines, line) }

// begin a process at a place.
func (m *machine) begin(self *lives.Self[*channel], at int) {
	p := &process{Self: self, at: at}
	m.all = append(m.all, p)
	m.ready = append(m.ready, p)
}

// withinFuel says whether no step that was made is one too many.
func (m *machine) withinFuel() bool { return m.count <= m.fuel }

// next is whose turn it is now.
func (m *machine) next() *process {
	p := m.ready[0]
	m.ready = m.ready[1:]
	return p
}

// takeTurn lets a process do its steps; if it could go on then, it is the last one whose turn it is again.
func (m *machine) takeTurn(p *process) {
	for range m.turn {
		if p.at == len(m.list) || !m.withinFuel() || !m.step(p) {
			return
		}
	}
	m.ready = append(m.ready, p)
}

// step of a process; false, if it has to wait instead.
func (m *machine) step(p *process) bool {
	at := &m.list[p.at]
	switch at.Kind {
	case api.PSend, api.PGive, api.PPick, api.PRecv, api.PTake, api.PCase:
		return m.meet(p)
	case api.Stop:
		p.at = len(m.list)
	case api.Call:
		called := m.begins[at.Name]
		p.Become(&at.Proc, called.values, called.chans)
		p.at = called.place
	case api.Spawn:
		over := &channel{}
		m.begin(p.Bear(&at.Proc, over, over), at.kids[0])
		p.at = at.kids[1]
	default:
		p.at = at.kids[p.Do(&at.Proc, p.say)]
	}
	m.count++
	return true
}

// meet who waits at the channel, and do both steps; false, if nobody waits: then p does, and its step is made in the turn of who comes.
func (m *machine) meet(p *process) bool {
	at := &m.list[p.at]
	over := p.Ends[at.Chan]
	q := over.waits
	if q == nil {
		over.waits = p
		return false
	}
	over.waits = nil
	if lives.GoesOut(at.Kind) {
		m.handOver(p, q)
	} else {
		m.handOver(q, p)
	}
	m.ready = append(m.ready, q)
	m.count += 2
	return true
}

// handOver what p lets out and q lets in.
func (m *machine) handOver(p, q *process) {
	out, in := &m.list[p.at], &m.list[q.at]
	branch := 0
	switch out.Kind {
	case api.PSend:
		q.Know(in.Name, p.Value(out.Expr))
	case api.PGive:
		q.Ends[in.Name] = p.Lose(out.Name)
	case api.PPick:
		branch = slices.Index(in.Labels, out.Label)
	}
	p.at, q.at = out.kids[0], in.kids[branch]
}

func (m *machine) said() []api.Said {
	said := make([]api.Said, len(m.all))
	for i, p := range m.all {
		said[i] = api.Said{Who: p.Name(), Lines: p.lines}
	}
	lives.Order(said)
	return said
}
