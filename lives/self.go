package lives

import (
	"slices"
	"strconv"
	"strings"

	"duet/api"
	"duet/exprs"
)

// Self of a process of a program that check.Check has passed: who it is, and what it has, wherever it stands. What it looks for is there, and what it reckons has a value. What an end of a channel is, who runs the program says.
type Self[E any] struct {
	Ends     map[string]E
	known    []api.Bind // a later one of a name counts
	parent   *Self[E]
	rank     int // among the children of its parent
	children int
}

// Begun is the one of the process that a program runs from.
func Begun[E any]() *Self[E] { return &Self[E]{Ends: map[string]E{}} }

// Name is put together only when it is told: of a program that goes on for ever names may grow and grow.
func (s *Self[E]) Name() string {
	var ranks []string
	for ; s != nil; s = s.parent {
		ranks = append(ranks, strconv.Itoa(s.rank))
	}
	slices.Reverse(ranks)
	return strings.Join(ranks, ".")
}

// Channel is the name of the channel over which a child was spawned.
func (s *Self[E]) Channel() string { return s.parent.Name() + ":" + strconv.Itoa(s.rank) }

// Lose an end, which is answered.
func (s *Self[E]) Lose(name string) E {
	x := s.Ends[name]
	delete(s.Ends, name)
	return x
}

// Know a value by a name from here on.
func (s *Self[E]) Know(name string, v api.Value) {
	s.known = append(s.known, api.Bind{Name: name, Value: v})
}

// Value of an expression here.
func (s *Self[E]) Value(x api.Expr) api.Value {
	v, _ := exprs.Eval(x, s.known)
	return v
}

// Bear the child of a Spawn, which has its end of the new channel; the other one is its parent's.
func (s *Self[E]) Bear(at *api.Proc, its, other E) *Self[E] {
	child := &Self[E]{Ends: map[string]E{}, known: slices.Clone(s.known), parent: s, rank: s.children}
	for _, name := range at.Names {
		child.Ends[name] = s.Lose(name)
	}
	child.Ends[at.Chan], s.Ends[at.Chan] = its, other
	s.children++
	return child
}

// Become what a Call leads to: it has what a definition with these names of values and channels begins with, and nothing else.
func (s *Self[E]) Become(at *api.Proc, values, chans []string) {
	var known []api.Bind
	for i, name := range values {
		known = append(known, api.Bind{Name: name, Value: s.Value(at.Exprs[i])})
	}
	ends := map[string]E{}
	for i, name := range chans {
		ends[name] = s.Ends[at.Names[i]]
	}
	s.known, s.Ends = known, ends
}

// Do what needs no other process, and leads to one of Kids: PEnd, Let, Print, If. The number of that Kid is answered; a line of Print goes to say.
func (s *Self[E]) Do(at *api.Proc, say func(line string)) int {
	switch at.Kind {
	case api.PEnd:
		s.Lose(at.Chan)
	case api.Let:
		s.Know(at.Name, s.Value(at.Expr))
	case api.Print:
		say(Written(s.Value(at.Expr)))
	case api.If:
		return int(1 - s.Value(at.Expr).N)
	}
	return 0
}
