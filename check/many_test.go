package check_test

import (
	"math/rand"
	"slices"
	"strings"
	"testing"

	"duet/api"
	"duet/below"
	"duet/check"
	"duet/dual"
	"duet/exprs"
	"duet/graph"
	"duet/syntax"
	"duet/types"
)

// channel's end that a process has, by its type: what the tests go by in the place of graphs.
type channel struct {
	name string
	of   api.Type
}

// having is what a process has.
type having struct {
	names []string
	sorts []int
	ends  []channel
}

func (h having) has(name string) bool { return h.at(name) >= 0 }

func (h having) at(name string) int {
	return slices.IndexFunc(h.ends, func(c channel) bool { return c.name == name })
}

func (h having) knows(name string, sort int) having {
	return having{append(slices.Clone(h.names), name), append(slices.Clone(h.sorts), sort), h.ends}
}

func (h having) gets(name string, of api.Type) having {
	return having{h.names, h.sorts, append(slices.Clone(h.ends), channel{name, of})}
}

func (h having) loses(name string) having {
	lost := func(c channel) bool { return c.name == name }
	return having{h.names, h.sorts, slices.DeleteFunc(slices.Clone(h.ends), lost)}
}

func (h having) turns(name string, into api.Type) having { return h.loses(name).gets(name, into) }

// turned is what the other end of a type does.
func turned(t api.Type) api.Type {
	g, e := dual.Of(t)
	if e != api.OK {
		panic(e)
	}
	out, e := graph.Back(g)
	if e != api.OK {
		panic(e)
	}
	return out
}

// judge is the chapter once more, sentence by sentence: what is wrong first is thrown.
type judge []api.Def

func (j judge) verdict() (e api.Errno, k int) {
	defer func() {
		if thrown := recover(); thrown != nil {
			e = thrown.(api.Errno)
		}
	}()
	throw(len(j[0].Values)+len(j[0].Chans) > 0, api.ErrArg)
	seen := map[string]int{}
	for ; k < len(j); k++ {
		d := j[k]
		seen[d.Name]++
		throw(seen[d.Name] > 1, api.ErrName)
		for _, names := range [][]string{d.Values, d.Chans} {
			throw(len(slices.Compact(slices.Sorted(slices.Values(names)))) < len(names), api.ErrName)
		}
	}
	for k = 0; k < len(j); k++ {
		h := having{names: j[k].Values, sorts: j[k].Sorts}
		for i, name := range j[k].Chans {
			h = h.gets(name, j[k].Types[i])
		}
		j.look(j[k].Body, h)
	}
	return api.OK, 0
}

func throw(wrong bool, e api.Errno) {
	if wrong {
		panic(e)
	}
}

func sorted(x api.Expr, h having) int {
	sort, e := exprs.Sort(x, h.names, h.sorts)
	throw(e != api.OK, e)
	return sort
}

func isBelow(s, t api.Type) bool {
	ok, e := below.Is(s, t)
	return ok && e == api.OK
}

func (j judge) look(p api.Proc, h having) {
	switch p.Kind {
	case api.Stop:
		throw(len(h.ends) > 0, api.ErrLinear)
	case api.Spawn:
		j.lookAtSpawn(p, h)
	case api.Let:
		j.look(p.Kids[0], h.knows(p.Name, sorted(p.Expr, h)))
	case api.Print:
		sorted(p.Expr, h)
		j.look(p.Kids[0], h)
	case api.If:
		throw(sorted(p.Expr, h) != api.Bool, api.ErrSort)
		j.look(p.Kids[0], h)
		j.look(p.Kids[1], h)
	case api.Call:
		j.lookAtCall(p, h)
	default:
		j.lookAtDoing(p, h)
	}
}

func (j judge) lookAtDoing(p api.Proc, h having) {
	throw(!h.has(p.Chan), api.ErrName)
	t, e := types.Unfold(h.ends[h.at(p.Chan)].of)
	throw(e != api.OK, e)
	kinds := []int{0, 0, api.Send, api.Recv, api.Give, api.Take, api.Pick, api.Offer, api.End}
	throw(t.Kind != kinds[p.Kind], api.ErrType)
	switch p.Kind {
	case api.PSend:
		throw(sorted(p.Expr, h) != t.Sort, api.ErrSort)
		j.look(p.Kids[0], h.turns(p.Chan, t.Kids[0]))
	case api.PRecv:
		j.look(p.Kids[0], h.turns(p.Chan, t.Kids[0]).knows(p.Name, t.Sort))
	case api.PGive:
		throw(!h.has(p.Name) || p.Name == p.Chan, api.ErrName)
		throw(!isBelow(h.ends[h.at(p.Name)].of, t.Kids[0]), api.ErrType)
		j.look(p.Kids[0], h.loses(p.Name).turns(p.Chan, t.Kids[1]))
	case api.PTake:
		throw(h.has(p.Name), api.ErrName)
		j.look(p.Kids[0], h.turns(p.Chan, t.Kids[1]).gets(p.Name, t.Kids[0]))
	case api.PPick:
		throw(!slices.Contains(t.Labels, p.Label), api.ErrType)
		j.look(p.Kids[0], h.turns(p.Chan, t.Kids[slices.Index(t.Labels, p.Label)]))
	case api.PCase:
		for i, label := range t.Labels {
			throw(!slices.Contains(p.Labels, label), api.ErrType)
			j.look(p.Kids[slices.Index(p.Labels, label)], h.turns(p.Chan, t.Kids[i]))
		}
	case api.PEnd:
		j.look(p.Kids[0], h.loses(p.Chan))
	}
}

func (j judge) lookAtSpawn(p api.Proc, h having) {
	throw(h.has(p.Chan), api.ErrName)
	child := having{names: h.names, sorts: h.sorts}
	for _, name := range p.Names {
		throw(!h.has(name), api.ErrName)
		child = child.gets(name, h.ends[h.at(name)].of)
		h = h.loses(name)
	}
	j.look(p.Kids[0], child.gets(p.Chan, p.Type))
	j.look(p.Kids[1], h.gets(p.Chan, turned(p.Type)))
}

func (j judge) lookAtCall(p api.Proc, h having) {
	k := slices.IndexFunc(j, func(d api.Def) bool { return d.Name == p.Name })
	throw(k < 0, api.ErrName)
	d := j[k]
	throw(len(d.Values) != len(p.Exprs) || len(d.Chans) != len(p.Names), api.ErrArg)
	for i, x := range p.Exprs {
		throw(sorted(x, h) != d.Sorts[i], api.ErrSort)
	}
	for i, name := range p.Names {
		throw(!h.has(name), api.ErrName)
		throw(!isBelow(h.ends[h.at(name)].of, d.Types[i]), api.ErrType)
		h = h.loses(name)
	}
	throw(len(h.ends) > 0, api.ErrLinear)
}

// maker of programs that keep to their types.
type maker struct {
	*rand.Rand
	defs []api.Def
	left int // how many more processes it may make, but those that bring all to their ends
}

func (m *maker) one(words string) string {
	list := strings.Fields(words)
	return list[m.Intn(len(list))]
}

// finite is a type that comes to its ends, of that depth at most.
func (m *maker) finite(depth int) api.Type {
	if depth == 0 {
		return api.Type{Kind: api.End}
	}
	next := func() api.Type { return m.finite(depth - 1) }
	switch kind := api.End + m.Intn(7); kind {
	case api.Send, api.Recv:
		return api.Type{Kind: kind, Sort: 1 + m.Intn(3), Kids: []api.Type{next()}}
	case api.Give, api.Take:
		return api.Type{Kind: kind, Kids: []api.Type{m.finite(1), next()}}
	case api.Pick, api.Offer:
		t := api.Type{Kind: kind, Labels: strings.Fields(m.one("a b"))}
		if m.Intn(2) == 0 {
			t.Labels = []string{"a", "c"}
		}
		for range t.Labels {
			t.Kids = append(t.Kids, next())
		}
		return t
	}
	return api.Type{Kind: api.End}
}

// less is a type below another one, by labels alone.
func (m *maker) less(t api.Type) api.Type {
	if t.Kind == api.Pick && t.Labels[len(t.Labels)-1] < "d" && m.Intn(2) == 0 {
		t.Labels, t.Kids = append(slices.Clone(t.Labels), "d"), append(slices.Clone(t.Kids), api.Type{Kind: api.End})
	}
	if t.Kind == api.Offer && len(t.Labels) > 1 && m.Intn(2) == 0 {
		t.Labels, t.Kids = t.Labels[1:], t.Kids[1:]
	}
	return t
}

// expr of a sort, of a name, if there is one.
func (m *maker) expr(sort int, h having) api.Expr {
	for _, i := range m.Perm(len(h.names)) {
		x := api.Expr{Kind: api.Name, Name: h.names[i]}
		if s, _ := exprs.Sort(x, h.names, h.sorts); s == sort {
			return x
		}
	}
	text := []string{"", "1 + 2", "1 < 2", `"a" ++ "b"`}[sort]
	x, _ := exprs.Parse(text)
	return x
}

// newEnd is a name that no end has.
func (m *maker) newEnd(h having) string {
	for {
		if name := m.one("c d e g h i j k l m n o p q r s"); !h.has(name) {
			return name
		}
	}
}

// proc is a process that does all that is to be done.
func (m *maker) proc(h having) api.Proc {
	m.left--
	if m.left > 0 && len(h.ends) < 5 {
		switch m.Intn(9) {
		case 0:
			sort := 1 + m.Intn(3)
			name := m.one("x y z")
			return api.Proc{Kind: api.Let, Name: name, Expr: m.expr(sort, h), Kids: []api.Proc{m.proc(h.knows(name, sort))}}
		case 1:
			return api.Proc{Kind: api.Print, Expr: m.expr(1+m.Intn(3), h), Kids: []api.Proc{m.proc(h)}}
		case 2:
			return api.Proc{Kind: api.If, Expr: m.expr(api.Bool, h), Kids: []api.Proc{m.proc(h), m.proc(h)}}
		case 3, 4:
			return m.spawn(h, m.newEnd(h), m.finite(3), m.proc)
		}
	}
	if len(m.defs) < 10 && m.Intn(6) == 0 {
		return m.call(h)
	}
	if len(h.ends) == 0 {
		return api.Proc{Kind: api.Stop}
	}
	return m.doing(h, h.ends[m.Intn(len(h.ends))])
}

// spawn gives some ends to the child; then says what comes next.
func (m *maker) spawn(h having, name string, of api.Type, then func(having) api.Proc) api.Proc {
	p := api.Proc{Kind: api.Spawn, Chan: name, Type: of}
	child := having{names: h.names, sorts: h.sorts}
	for _, c := range h.ends {
		if m.Intn(3) == 0 {
			p.Names = append(p.Names, c.name)
			child, h = child.gets(c.name, c.of), h.loses(c.name)
		}
	}
	p.Kids = []api.Proc{m.proc(child.gets(name, of)), then(h.gets(name, turned(of)))}
	return p
}

// call of a new definition, to which all ends go, and some values.
func (m *maker) call(h having) api.Proc {
	d := api.Def{Name: m.one("f g h") + string(rune('a'+len(m.defs)))}
	p := api.Proc{Kind: api.Call, Name: d.Name}
	inside := having{}
	for _, name := range []string{"x", "u"}[:m.Intn(3)] {
		sort := 1 + m.Intn(3)
		d.Values, d.Sorts, p.Exprs = append(d.Values, name), append(d.Sorts, sort), append(p.Exprs, m.expr(sort, h))
		inside = inside.knows(name, sort)
	}
	for i, c := range h.ends {
		if i == 6 {
			return m.doing(h, h.ends[0])
		}
		name := m.newEnd(inside)
		d.Chans, d.Types, p.Names = append(d.Chans, name), append(d.Types, c.of), append(p.Names, c.name)
		inside = inside.gets(name, c.of)
	}
	k := len(m.defs)
	m.defs = append(m.defs, d)
	m.defs[k].Body = m.proc(inside)
	return p
}

// doing what the type of an end says, which has no rec in it.
func (m *maker) doing(h having, c channel) api.Proc {
	t := c.of
	p := api.Proc{Kind: t.Kind, Chan: c.name}
	switch t.Kind {
	case api.End:
		p.Kind, p.Kids = api.PEnd, []api.Proc{m.proc(h.loses(c.name))}
	case api.Send:
		p.Expr, p.Kids = m.expr(t.Sort, h), []api.Proc{m.proc(h.turns(c.name, t.Kids[0]))}
	case api.Recv:
		p.Name = m.one("x y z")
		p.Kids = []api.Proc{m.proc(h.turns(c.name, t.Kids[0]).knows(p.Name, t.Sort))}
	case api.Give:
		return m.giving(h, c)
	case api.Take:
		p.Name = m.newEnd(h)
		p.Kids = []api.Proc{m.proc(h.turns(c.name, t.Kids[1]).gets(p.Name, t.Kids[0]))}
	case api.Pick:
		k := m.Intn(len(t.Labels))
		p.Label, p.Kids = t.Labels[k], []api.Proc{m.proc(h.turns(c.name, t.Kids[k]))}
	case api.Offer:
		p.Labels = slices.Clone(t.Labels)
		for _, next := range t.Kids {
			p.Kids = append(p.Kids, m.proc(h.turns(c.name, next)))
		}
		if m.Intn(3) == 0 {
			p.Labels, p.Kids = append(p.Labels, "z"), append(p.Kids, api.Proc{Kind: api.Call, Name: "nobody"})
		}
	}
	return p
}

// giving takes an end that is there, or the other end of a new channel.
func (m *maker) giving(h having, c channel) api.Proc {
	give := func(name string, h having) api.Proc {
		p := api.Proc{Kind: api.PGive, Chan: c.name, Name: name}
		p.Kids = []api.Proc{m.proc(h.loses(name).turns(c.name, c.of.Kids[1]))}
		return p
	}
	for _, d := range h.ends {
		if d.name != c.name && isBelow(d.of, c.of.Kids[0]) {
			return give(d.name, h)
		}
	}
	name := m.newEnd(h)
	p := api.Proc{Kind: api.Spawn, Chan: name, Type: turned(m.less(c.of.Kids[0]))}
	child := having{names: h.names, sorts: h.sorts}.gets(name, p.Type)
	p.Kids = []api.Proc{m.proc(child), give(name, h.gets(name, turned(p.Type)))}
	return p
}

// made is a program that keeps to its types, and to the limits.
func made(r *rand.Rand) api.Program {
	for {
		m := &maker{Rand: r, left: 4 + r.Intn(20)}
		m.defs = []api.Def{{Name: "main"}}
		m.defs[0].Body = m.proc(having{})
		p := api.Program{Defs: m.defs}
		if syntax.Shape(p) == api.OK {
			return p
		}
	}
}

// procsOf is all processes of a program, to be changed.
func procsOf(p *api.Proc) []*api.Proc {
	out := []*api.Proc{p}
	for i := range p.Kids {
		out = append(out, procsOf(&p.Kids[i])...)
	}
	return out
}

// spoil changes something somewhere, so that it is often no program that keeps to its types any more.
func (m *maker) spoil() {
	d := &m.defs[m.Intn(len(m.defs))]
	procs := procsOf(&d.Body)
	p := procs[m.Intn(len(procs))]
	switch m.Intn(12) {
	case 0:
		m.another(&p.Chan, "c d e g h i")
	case 1:
		m.another(&p.Name, "c d e x y z main fb gc")
	case 2:
		m.another(&p.Label, "a b c d z")
	case 3:
		if p.Expr.Kind == 0 {
			return
		}
		p.Expr = m.expr(1+m.Intn(3), having{names: []string{m.one("x y z u c")}, sorts: []int{1 + m.Intn(3)}})
	case 4:
		m.spoilNames(&p.Names)
	case 5:
		if p.Kind == api.Spawn {
			p.Type = m.finite(3)
		}
	case 6:
		if p.Kind == api.PCase {
			p.Labels[m.Intn(len(p.Labels))] = m.one("a b c d z")
		}
	case 7:
		if len(p.Kids) == 1 {
			*p = p.Kids[0]
		}
	case 8:
		*p = api.Proc{Kind: api.PEnd, Chan: m.one("c d e g h i"), Kids: []api.Proc{*p}}
	case 9:
		m.spoilHead(d)
	case 10:
		if len(p.Exprs) > 0 {
			p.Exprs[m.Intn(len(p.Exprs))] = m.expr(1+m.Intn(3), having{})
		}
	case 11:
		*p = api.Proc{Kind: api.If, Expr: m.expr(1+m.Intn(2), having{}), Kids: []api.Proc{*p, {Kind: api.Stop}}}
	}
}

// another word in the place of one that is there.
func (m *maker) another(word *string, words string) {
	if *word != "" {
		*word = m.one(words)
	}
}

func (m *maker) spoilNames(names *[]string) {
	switch {
	case m.Intn(3) == 0:
		*names = append(*names, m.one("c d e g h i j k"))
	case len(*names) == 0:
	case m.Intn(2) == 0:
		*names = (*names)[1:]
	default:
		(*names)[m.Intn(len(*names))] = m.one("c d e g h i j k")
	}
}

func (m *maker) spoilHead(d *api.Def) {
	switch m.Intn(5) {
	case 0:
		d.Name = m.one("main fb gb hb")
	case 1:
		d.Values, d.Sorts = append(d.Values, m.one("x y")), append(d.Sorts, 1+m.Intn(3))
	case 2:
		d.Chans, d.Types = append(d.Chans, m.one("c d e g h i")), append(d.Types, m.finite(2))
	case 3:
		if len(d.Types) > 0 {
			d.Types[m.Intn(len(d.Types))] = m.finite(2)
		}
	case 4:
		if len(d.Sorts) > 0 {
			d.Sorts[m.Intn(len(d.Sorts))] = 1 + m.Intn(3)
		}
	}
}

func text(p api.Program) string {
	s, _ := syntax.Write(p)
	return s
}

func TestP27OfManyThatKeepToTheirTypes(t *testing.T) {
	r := rand.New(rand.NewSource(27))
	kinds := map[int]int{}
	for range 3000 {
		p := made(r)
		if e, k := check.Check(p); e != api.OK || k != 0 {
			t.Fatalf("%d in %d:\n%s", e, k, text(p))
		}
		for i := range p.Defs {
			for _, x := range procsOf(&p.Defs[i].Body) {
				kinds[x.Kind]++
			}
		}
	}
	for kind := api.Stop; kind <= api.Call; kind++ {
		if kinds[kind] < 300 {
			t.Errorf("too few: %v", kinds)
		}
	}
}

func TestP27OfManyThatAreSpoilt(t *testing.T) {
	r := rand.New(rand.NewSource(270))
	told := map[api.Errno]int{}
	late := 0
	for range 15000 {
		m := &maker{Rand: r, defs: made(r).Defs}
		for range 1 + r.Intn(4) {
			m.spoil()
		}
		p := api.Program{Defs: m.defs}
		e, k := syntax.Shape(p), 0
		if e == api.OK {
			e, k = judge(p.Defs).verdict()
			told[e]++
			late += min(k, 1)
		}
		if got, at := check.Check(p); got != e || at != k {
			t.Fatalf("%d in %d, want %d in %d:\n%s", got, at, e, k, text(p))
		}
	}
	for _, e := range []api.Errno{api.OK, api.ErrArg, api.ErrName, api.ErrSort, api.ErrLinear, api.ErrType} {
		if told[e] < 300 {
			t.Errorf("too few: %v", told)
		}
	}
	if late < 1000 {
		t.Errorf("too few behind the first definition: %d", late)
	}
}
