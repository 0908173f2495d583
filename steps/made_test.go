package steps

import (
	"math/rand"
	"slices"
	"strings"
	"testing"

	"duet/api"
	"duet/check"
	"duet/exprs"
	"duet/syntax"
	"duet/types"
)

// parsed is for texts of which a test takes it for granted that they are read.
func parsed(t *testing.T, s string) api.Program {
	t.Helper()
	p, f := syntax.Parse(s)
	if f.Code != api.OK {
		t.Fatalf("Parse(%q): %v", s, f)
	}
	return p
}

func text(p api.Program) string {
	s, _ := syntax.Write(p)
	return s
}

// loops are definitions that programs which are made go on with: they come back to themselves, but not for ever.
const loops = `def main() = stop
def down(n:int; c:rec t.+{go:!int.t,no:end}) = if n < 1 {pick c no; end c; stop} else {pick c go; send c n * n; down(n - 1; c)}
def sum(n:int; c:rec t.&{go:?int.t,no:end}) = case c {go: recv c m; print n + m; sum(n + m; c), no: end c; stop}
def crowd(n:int) = if n < 1 {stop} else {spawn c:?int.!int.end () {recv c x; send c x + n; end c; stop}; send c n; recv c x; print x; end c; crowd(n - 1)}
def chain(n:int) = spawn c:&{a:end,b:end} () {if n < 1 {case c {a: end c; stop, b: end c; stop}} else {case c {a: end c; chain(n - 1), b: end c; stop}}}; pick c a; end c; print n; stop
`

// A looping type, and what the other end does.
const downward, upward = "rec t.+{go:!int.t,no:end}", "rec t.&{go:?int.t,no:end}"

// held end of a channel.
type held struct {
	name string
	does api.Type
}

// having is what a process has.
type having struct {
	names []string
	sorts []int
	ends  []held
}

func (h having) knows(name string, sort int) having {
	h.names, h.sorts = append(slices.Clone(h.names), name), append(slices.Clone(h.sorts), sort)
	return h
}

func (h having) gets(name string, does api.Type) having {
	h.ends = append(slices.Clone(h.ends), held{name, does})
	return h
}

func (h having) loses(name string) having {
	h.ends = slices.DeleteFunc(slices.Clone(h.ends), func(x held) bool { return x.name == name })
	return h
}

func (h having) turns(name string, into api.Type) having { return h.loses(name).gets(name, into) }

func typed(s string) api.Type {
	t, f := types.Parse(s)
	if f.Code != api.OK {
		panic(s)
	}
	return t
}

// turned is the other end of a type that is made: what is carried stays.
func turned(t api.Type) api.Type {
	if t.Kind == api.Rec {
		if t.Kids[0].Kind == api.Pick {
			return typed(upward)
		}
		return typed(downward)
	}
	kinds := []int{0, api.End, api.Recv, api.Send, api.Take, api.Give, api.Offer, api.Pick}
	t.Kind, t.Kids = kinds[t.Kind], slices.Clone(t.Kids)
	for i := range t.Kids {
		if i > 0 || t.Kind != api.Give && t.Kind != api.Take {
			t.Kids[i] = turned(t.Kids[i])
		}
	}
	return t
}

// maker of programs that keep to their types, and come to their end.
type maker struct {
	*rand.Rand
	defs []api.Def
	left int // how many more processes it may make, but those that bring all to their ends
}

func (m *maker) one(words string) string {
	list := strings.Fields(words)
	return list[m.Intn(len(list))]
}

// does is a type of that depth at most, but for a loop at its end.
func (m *maker) does(depth int) api.Type {
	if depth == 0 {
		return typed([]string{"end", "end", downward, upward}[m.Intn(4)])
	}
	kind := api.End + m.Intn(7)
	t := api.Type{Kind: kind}
	switch kind {
	case api.Send, api.Recv:
		t.Sort, t.Kids = 1+m.Intn(3), []api.Type{m.does(depth - 1)}
	case api.Give, api.Take:
		t.Kids = []api.Type{m.does(m.Intn(2)), m.does(depth - 1)}
	case api.Pick, api.Offer:
		t.Labels = [][]string{{"a"}, {"a", "b"}, {"b", "c"}}[m.Intn(3)]
		for range t.Labels {
			t.Kids = append(t.Kids, m.does(depth-1))
		}
	}
	return t
}

// expr of a sort, with a name in it, if there is one.
func (m *maker) expr(sort int, h having) api.Expr {
	written := []string{"", m.one("0 3 -7"), m.one("true false"), m.one(`"" "a" "b\nc" "\\é"`)}[sort]
	for _, i := range m.Perm(len(h.names)) {
		if s, _ := exprs.Sort(api.Expr{Kind: api.Name, Name: h.names[i]}, h.names, h.sorts); s == sort {
			written = h.names[i] + " " + []string{"", m.one("+ - *") + " 2", m.one("and or ==") + " true", `++ "d"`}[sort]
		}
	}
	x, f := exprs.Parse(written)
	if f.Code != api.OK {
		panic(written)
	}
	return x
}

// free is a name that no end has.
func (m *maker) free(h having) string {
	for {
		name := m.one("c d e g h i j k l m n o p q r s")
		if !slices.ContainsFunc(h.ends, func(x held) bool { return x.name == name }) {
			return name
		}
	}
}

// proc is a process that does all that is to be done.
func (m *maker) proc(h having) api.Proc {
	m.left--
	if m.left > 0 && len(h.ends) < 5 {
		switch m.Intn(9) {
		case 0:
			sort, name := 1+m.Intn(3), m.one("x y z")
			return api.Proc{Kind: api.Let, Name: name, Expr: m.expr(sort, h), Kids: []api.Proc{m.proc(h.knows(name, sort))}}
		case 1, 2:
			return api.Proc{Kind: api.Print, Expr: m.expr(1+m.Intn(3), h), Kids: []api.Proc{m.proc(h)}}
		case 3:
			return api.Proc{Kind: api.If, Expr: m.expr(api.Bool, h), Kids: []api.Proc{m.proc(h), m.proc(h)}}
		case 4, 5, 6:
			return m.spawn(h)
		}
	}
	switch {
	case len(h.ends) > 0 && m.Intn(8) == 0 && len(m.defs) < 10 && len(h.ends) <= 6:
		return m.call(h)
	case len(h.ends) > 0:
		return m.doing(h, h.ends[m.Intn(len(h.ends))])
	case m.Intn(4) == 0:
		count := api.Expr{Kind: api.Lit, Value: api.Value{Sort: api.Int, N: int64(m.Intn(13))}}
		return api.Proc{Kind: api.Call, Name: m.one("crowd chain"), Exprs: []api.Expr{count}}
	}
	return api.Proc{Kind: api.Stop}
}

// spawn gives some ends to the child.
func (m *maker) spawn(h having) api.Proc {
	p := api.Proc{Kind: api.Spawn, Chan: m.free(h), Type: m.does(3)}
	child := having{names: h.names, sorts: h.sorts}
	for _, x := range h.ends {
		if m.Intn(3) == 0 {
			p.Names = append(p.Names, x.name)
			child, h = child.gets(x.name, x.does), h.loses(x.name)
		}
	}
	p.Kids = []api.Proc{m.proc(child.gets(p.Chan, p.Type)), m.proc(h.gets(p.Chan, turned(p.Type)))}
	return p
}

// call of a new definition, to which all ends go under other names, and some values.
func (m *maker) call(h having) api.Proc {
	d := api.Def{Name: "new" + string(rune('a'+len(m.defs)))}
	p := api.Proc{Kind: api.Call, Name: d.Name}
	inside := having{}
	for _, name := range []string{"y", "x"}[:m.Intn(3)] {
		sort := 1 + m.Intn(3)
		d.Values, d.Sorts, p.Exprs = append(d.Values, name), append(d.Sorts, sort), append(p.Exprs, m.expr(sort, h))
		inside = inside.knows(name, sort)
	}
	for _, x := range h.ends {
		name := m.free(inside)
		d.Chans, d.Types, p.Names = append(d.Chans, name), append(d.Types, x.does), append(p.Names, x.name)
		inside = inside.gets(name, x.does)
	}
	k := len(m.defs)
	m.defs = append(m.defs, d)
	m.defs[k].Body = m.proc(inside)
	return p
}

// doing what the type of an end says.
func (m *maker) doing(h having, x held) api.Proc {
	t := x.does
	p := api.Proc{Chan: x.name}
	then := func(h having) []api.Proc { return []api.Proc{m.proc(h)} }
	switch t.Kind {
	case api.End:
		p.Kind, p.Kids = api.PEnd, then(h.loses(x.name))
	case api.Send:
		p.Kind, p.Expr, p.Kids = api.PSend, m.expr(t.Sort, h), then(h.turns(x.name, t.Kids[0]))
	case api.Recv:
		p.Kind, p.Name = api.PRecv, m.one("x y z")
		p.Kids = then(h.turns(x.name, t.Kids[0]).knows(p.Name, t.Sort))
	case api.Give:
		given := m.free(h)
		give := api.Proc{Kind: api.PGive, Chan: x.name, Name: given, Kids: then(h.turns(x.name, t.Kids[1]))}
		other := turned(t.Kids[0])
		child := m.proc(having{names: h.names, sorts: h.sorts}.gets(given, other))
		return api.Proc{Kind: api.Spawn, Chan: given, Type: other, Kids: []api.Proc{child, give}}
	case api.Take:
		p.Kind, p.Name = api.PTake, m.free(h)
		p.Kids = then(h.turns(x.name, t.Kids[1]).gets(p.Name, t.Kids[0]))
	case api.Pick:
		k := m.Intn(len(t.Labels))
		p.Kind, p.Label, p.Kids = api.PPick, t.Labels[k], then(h.turns(x.name, t.Kids[k]))
	case api.Offer:
		p.Kind, p.Labels = api.PCase, slices.Clone(t.Labels)
		for _, kid := range t.Kids {
			p.Kids = append(p.Kids, m.proc(h.turns(x.name, kid)))
		}
	case api.Rec:
		return m.looping(h, x)
	}
	return p
}

// looping leaves the loop to a child.
func (m *maker) looping(h having, x held) api.Proc {
	name := map[int]string{api.Pick: "down", api.Offer: "sum"}[x.does.Kids[0].Kind]
	count := api.Expr{Kind: api.Lit, Value: api.Value{Sort: api.Int, N: int64(m.Intn(4))}}
	call := api.Proc{Kind: api.Call, Name: name, Exprs: []api.Expr{count}, Names: []string{x.name}}
	over := m.free(h)
	end := func(next api.Proc) api.Proc { return api.Proc{Kind: api.PEnd, Chan: over, Kids: []api.Proc{next}} }
	return api.Proc{Kind: api.Spawn, Chan: over, Type: typed("end"), Names: []string{x.name}, Kids: []api.Proc{end(call), end(m.proc(h.loses(x.name)))}}
}

// made is a program that keeps to its types, and to the limits.
func made(t *testing.T, r *rand.Rand) api.Program {
	for {
		m := &maker{Rand: r, defs: parsed(t, loops).Defs, left: 4 + r.Intn(20)}
		body := m.proc(having{})
		m.defs[0].Body = body
		p := api.Program{Defs: m.defs}
		if syntax.Shape(p) != api.OK {
			continue
		}
		if e, k := check.Check(p); e != api.OK {
			t.Fatalf("%d in %d:\n%s", e, k, text(p))
		}
		return p
	}
}

// manyPicks are some of no account, and some that go far beyond what there is.
func manyPicks(r *rand.Rand) []int {
	picks := make([]int, r.Intn(400))
	for i := range picks {
		picks[i] = r.Intn(9) - 4
		if r.Intn(3) == 0 {
			picks[i] = int(r.Uint64())
		}
	}
	return picks
}
