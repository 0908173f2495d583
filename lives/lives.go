// Package lives: what a process has and does, however its program is run. It has no promises of its own: the packages that run programs share it.
package lives

import (
	"slices"
	"strings"

	"duet/api"
	"duet/values"
)

// Life of a process that goes from each process of the program to one of its Kids.
type Life[E any] struct {
	*Self[E]
	At *api.Proc // what it does next; nil, if it is over
}

// First is the process that a program runs from.
func First[E any](defs []api.Def) *Life[E] {
	return &Life[E]{Self: Begun[E](), At: &defs[0].Body}
}

// Here is the end at which it stands.
func (l *Life[E]) Here() E { return l.Ends[l.At.Chan] }

// Next goes on with what comes next, of the kinds that have it.
func (l *Life[E]) Next() { l.At = &l.At.Kids[len(l.At.Kids)-1] }

// Branch goes on with the Kid of a label, of PCase.
func (l *Life[E]) Branch(label string) {
	l.At = &l.At.Kids[slices.Index(l.At.Labels, label)]
}

// Spawn is the child, with its end of the new channel; its parent goes on with the other one.
func (l *Life[E]) Spawn(its, other E) *Life[E] {
	child := &Life[E]{Self: l.Bear(l.At, its, other), At: &l.At.Kids[0]}
	l.Next()
	return child
}

// Alone does what needs no other process, and by which none begins: Stop, PEnd, Let, Print, If, Call. A line of Print goes to say.
func (l *Life[E]) Alone(defs []api.Def, say func(line string)) {
	at := l.At
	switch at.Kind {
	case api.Stop:
		l.At = nil
	case api.Call:
		d := &defs[slices.IndexFunc(defs, func(d api.Def) bool { return d.Name == at.Name })]
		l.Become(at, d.Values, d.Chans)
		l.At = &d.Body
	default:
		l.At = &at.Kids[l.Do(at, say)]
	}
}

// GoesOut says whether something goes out where a process of that kind stands.
func GoesOut(kind int) bool { return kind == api.PSend || kind == api.PGive || kind == api.PPick }

// ComesIn says whether something comes in there.
func ComesIn(kind int) bool { return kind == api.PRecv || kind == api.PTake || kind == api.PCase }

// Picked is the number of what is done k-th, of so many that can be done then.
func Picked(picks []int, k, many int) int {
	if k >= len(picks) {
		return 0
	}
	pick := picks[k]
	if pick < 0 {
		pick = -1 - pick
	}
	return pick % many
}

// Written is a value that a process has, as values.Write writes it.
func Written(v api.Value) string {
	text, _ := values.Write(v)
	return text
}

// Order what processes have said by the bytes of their names.
func Order(said []api.Said) {
	slices.SortFunc(said, func(a, b api.Said) int { return strings.Compare(a.Who, b.Who) })
}
