// Package lives: what a process has and does, however its program is run. It has no promises of its own: the packages that run programs share it.
package lives

import (
	"slices"
	"strconv"
	"strings"

	"duet/api"
	"duet/exprs"
	"duet/values"
)

// Life of a process of a program that check.Check has passed: so what it looks for is there, and what it reckons has a value. What an end of a channel is, who runs the program says.
type Life[E any] struct {
	At       *api.Proc // what it does next; nil, if it is over
	Ends     map[string]E
	known    []api.Bind // a later one of a name counts
	parent   *Life[E]
	rank     int // among the children of its parent
	children int
}

// First is the process that a program runs from.
func First[E any](defs []api.Def) *Life[E] {
	return &Life[E]{At: &defs[0].Body, Ends: map[string]E{}}
}

// Name is put together only when it is told: of a program that goes on for ever names may grow and grow.
func (l *Life[E]) Name() string {
	var ranks []string
	for ; l != nil; l = l.parent {
		ranks = append(ranks, strconv.Itoa(l.rank))
	}
	slices.Reverse(ranks)
	return strings.Join(ranks, ".")
}

// Channel is the name of the channel over which a child was spawned.
func (l *Life[E]) Channel() string { return l.parent.Name() + ":" + strconv.Itoa(l.rank) }

// Here is the end at which it stands.
func (l *Life[E]) Here() E { return l.Ends[l.At.Chan] }

// Lose an end, which is answered.
func (l *Life[E]) Lose(name string) E {
	x := l.Ends[name]
	delete(l.Ends, name)
	return x
}

// Know a value by a name from here on.
func (l *Life[E]) Know(name string, v api.Value) {
	l.known = append(l.known, api.Bind{Name: name, Value: v})
}

// Value of an expression here.
func (l *Life[E]) Value(x api.Expr) api.Value {
	v, _ := exprs.Eval(x, l.known)
	return v
}

// Next goes on with what comes next, of the kinds that have it.
func (l *Life[E]) Next() { l.At = &l.At.Kids[len(l.At.Kids)-1] }

// Branch goes on with the Kid of a label, of PCase.
func (l *Life[E]) Branch(label string) {
	l.At = &l.At.Kids[slices.Index(l.At.Labels, label)]
}

// Spawn is the child, with its end of the new channel; its parent goes on with the other one.
func (l *Life[E]) Spawn(its, other E) *Life[E] {
	at := l.At
	child := &Life[E]{At: &at.Kids[0], Ends: map[string]E{}, known: slices.Clone(l.known), parent: l, rank: l.children}
	for _, name := range at.Names {
		child.Ends[name] = l.Lose(name)
	}
	child.Ends[at.Chan], l.Ends[at.Chan] = its, other
	l.children++
	l.Next()
	return child
}

// Alone does what needs no other process, and by which none begins: Stop, PEnd, Let, Print, If, Call. A line of Print goes to say.
func (l *Life[E]) Alone(defs []api.Def, say func(line string)) {
	at := l.At
	switch at.Kind {
	case api.Stop:
		l.At = nil
	case api.PEnd:
		l.Lose(at.Chan)
		l.Next()
	case api.Let:
		l.Know(at.Name, l.Value(at.Expr))
		l.Next()
	case api.Print:
		say(Written(l.Value(at.Expr)))
		l.Next()
	case api.If:
		l.At = &at.Kids[1-l.Value(at.Expr).N]
	case api.Call:
		k := slices.IndexFunc(defs, func(d api.Def) bool { return d.Name == at.Name })
		l.call(&defs[k])
	}
}

func (l *Life[E]) call(d *api.Def) {
	var known []api.Bind
	for i, name := range d.Values {
		known = append(known, api.Bind{Name: name, Value: l.Value(l.At.Exprs[i])})
	}
	ends := map[string]E{}
	for i, name := range d.Chans {
		ends[name] = l.Ends[l.At.Names[i]]
	}
	l.known, l.Ends, l.At = known, ends, &d.Body
}

// GoesOut says whether something goes out where a process of that kind stands.
func GoesOut(kind int) bool { return kind == api.PSend || kind == api.PGive || kind == api.PPick }

// ComesIn says whether something comes in there.
func ComesIn(kind int) bool { return kind == api.PRecv || kind == api.PTake || kind == api.PCase }

// Picked is the number of what is done k-th, of so many that can be done then.
func Picked(picks []int, k, many int) int {
	if k >= len(picks) {
		return 0
	}
	pick := picks[k]
	if pick < 0 {
		pick = -1 - pick
	}
	return pick % many
}

// Written is a value that a process has, as values.Write writes it.
func Written(v api.Value) string {
	text, _ := values.Write(v)
	return text
}

// Order what processes have said by the bytes of their names.
func Order(said []api.Said) {
	slices.SortFunc(said, func(a, b api.Said) int { return strings.Compare(a.Who, b.Who) })
}
