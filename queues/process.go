package queues

import (
	"duet/api"
	"duet/lives"
)

// process of a program that steps.Ask has passed.
type process struct {
	*lives.Life[end]
	number int // in the order in which processes began
	said   []string
}

func (p *process) say(line string) { p.said = append(p.said, line) }

// write the letter that goes out where a process stands.
func (p *process) write() letter {
	at := p.At
	switch at.Kind {
	case api.PSend:
		return letter{value: p.Value(at.Expr)}
	case api.PGive:
		return letter{end: p.Lose(at.Name)}
	}
	return letter{label: at.Label}
}

// read the letter that has come in where a process stands, and go on.
func (p *process) read(x letter) {
	at := p.At
	switch at.Kind {
	case api.PRecv:
		p.Know(at.Name, x.value)
		p.Next()
	case api.PTake:
		p.Ends[at.Name] = x.end
		p.Next()
	case api.PCase:
		p.Branch(x.label)
	}
}
