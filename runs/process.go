package runs

import (
	"duet/api"
	"duet/lives"
)

// thing that goes over a channel: a value, an end of a channel, or a label.
type thing interface{ goesOver() }

type value struct{ api.Value }

type label string

// end of a channel: both are the same, as by their types what goes out at the one comes in at the other. Nothing lies on its way: who lets something out waits till it is let in.
type end chan thing

func (value) goesOver() {}
func (label) goesOver() {}
func (end) goesOver()   {}

// process that goes on by itself.
type process struct {
	*lives.Life[end]
	run  *run
	page int // of the minutes
}

func (p *process) live() {
	defer p.run.running.Done()
	for p.At != nil && p.run.mayStep() {
		p.step()
	}
}

func (p *process) step() {
	at := p.At
	switch at.Kind {
	case api.PSend:
		p.letOut(value{p.Value(at.Expr)})
	case api.PGive:
		p.letOut(p.Lose(at.Name))
	case api.PPick:
		p.letOut(label(at.Label))
	case api.PRecv, api.PTake, api.PCase:
		p.letIn()
	case api.Spawn:
		over := make(end)
		p.run.begin(p.Spawn(over, over))
	default:
		p.Alone(p.run.defs, p.say)
	}
}

func (p *process) say(line string) { p.run.minutes.write(p.page, line) }

// letOut leaves a process where it is if all are cut off, as letIn does: it finds that out when it counts its next step.
func (p *process) letOut(x thing) {
	select {
	case p.Here() <- x:
		p.Next()
	case <-p.run.cutOff:
	}
}

func (p *process) letIn() {
	select {
	case x := <-p.Here():
		p.get(x)
	case <-p.run.cutOff:
	}
}

// get what has come in.
func (p *process) get(x thing) {
	name := p.At.Name
	switch x := x.(type) {
	case value:
		p.Know(name, x.Value)
		p.Next()
	case end:
		p.Ends[name] = x
		p.Next()
	case label:
		p.Branch(string(x))
	}
}
