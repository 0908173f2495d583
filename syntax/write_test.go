package syntax_test

import (
	"math/rand"
	"reflect"
	"slices"
	"strings"
	"testing"

	"duet/api"
	"duet/syntax"
)

func TestP26WriteOfEachKind(t *testing.T) {
	for _, x := range sound() {
		if s, e := syntax.Write(main(x.p)); s != "def main() = "+x.s+"\n" || e != api.OK {
			t.Errorf("Write: %q, %d, want %q", s, e, x.s)
		}
	}
}

func TestP26WriteOfLists(t *testing.T) {
	call := func(names []string, xs ...api.Expr) api.Proc {
		return api.Proc{Kind: api.Call, Name: "f", Exprs: xs, Names: names}
	}
	spawn := func(names ...string) api.Proc {
		return api.Proc{Kind: api.Spawn, Chan: "c", Type: typed("end"), Names: names, Kids: stops(2)}
	}
	x, y := expr("x"), expr("(x or y) and - z == #w - (1 - 2)")
	for _, c := range []struct {
		p    api.Proc
		want string
	}{
		{call(nil), "f()"}, {call([]string{}), "f()"}, {call(nil, x), "f(x)"}, {call(nil, x, y), "f(x, (x or y) and - z == #w - (1 - 2))"}, {call(letters(1)), "f(; a)"}, {call(letters(3)), "f(; a, b, c)"}, {call(letters(1), x), "f(x; a)"}, {call(letters(6), x, x, x, x, x, x), "f(x, x, x, x, x, x; a, b, c, d, e, f)"},
		{spawn(), "spawn c:end () {stop}; stop"}, {spawn("d"), "spawn c:end (d) {stop}; stop"}, {spawn("d", "d", "c"), "spawn c:end (d, d, c) {stop}; stop"},
		{api.Proc{Kind: api.PCase, Chan: "c", Labels: letters(1), Kids: stops(1)}, "case c {a: stop}"}, {api.Proc{Kind: api.PCase, Chan: "c", Labels: letters(6), Kids: stops(6)}, "case c {a: stop, b: stop, c: stop, d: stop, e: stop, f: stop}"},
	} {
		if s, e := syntax.Write(main(c.p)); s != "def main() = "+c.want+"\n" || e != api.OK {
			t.Errorf("Write: %q, %d, want %q", s, e, c.want)
		}
	}
}

func TestP26WriteOfDefinitions(t *testing.T) {
	choice := "rec t.+{a:!{?bool.t}.end,b:t}"
	def := func(sorts []int, ts ...string) api.Def {
		d := api.Def{Name: "f", Values: letters(len(sorts)), Sorts: sorts, Chans: letters(len(ts)), Body: stop()}
		for _, s := range ts {
			d.Types = append(d.Types, typed(s))
		}
		return d
	}
	for _, x := range []struct {
		p    api.Program
		want string
	}{
		{main(stop()), "def main() = stop\n"},
		{api.Program{Defs: []api.Def{def([]int{1})}}, "def f(a:int) = stop\n"},
		{api.Program{Defs: []api.Def{def([]int{1, 2, 3})}}, "def f(a:int, b:bool, c:text) = stop\n"},
		{api.Program{Defs: []api.Def{def(nil, "end")}}, "def f(; a:end) = stop\n"},
		{api.Program{Defs: []api.Def{def(nil, choice, "!int.end")}}, "def f(; a:" + choice + ", b:!int.end) = stop\n"},
		{api.Program{Defs: []api.Def{def([]int{3, 3}, "end", choice)}}, "def f(a:text, b:text; a:end, b:" + choice + ") = stop\n"},
		{api.Program{Defs: []api.Def{def([]int{1}, "end"), def(nil), def([]int{2})}}, "def f(a:int; a:end) = stop\ndef f() = stop\ndef f(a:bool) = stop\n"},
		{api.Program{Defs: slices.Repeat([]api.Def{def(nil)}, 10)}, strings.Repeat("def f() = stop\n", 10)},
		// More than could be read again: it is written all the same.
		{api.Program{Defs: slices.Repeat([]api.Def{{Name: "f", Body: row(20)}}, 10)}, strings.Repeat("def f() = "+strings.Repeat("end c; ", 19)+"stop\n", 10)},
		{main(api.Proc{Kind: api.Call, Name: "f", Exprs: slices.Repeat([]api.Expr{expr(strings.Repeat("abcdefgh + ", 29) + "x")}, 6)}), "def main() = f(" + strings.Repeat(strings.Repeat("abcdefgh + ", 29)+"x, ", 5) + strings.Repeat("abcdefgh + ", 29) + "x)\n"},
	} {
		if s, e := syntax.Write(x.p); s != x.want || e != api.OK {
			t.Errorf("Write: %q, %d, want %q", s, e, x.want)
		}
	}
}

func TestP26WriteSaysWhatShapeSays(t *testing.T) {
	programs := []api.Program{{}, {Defs: slices.Repeat([]api.Def{{Name: "f", Body: stop()}}, 11)}, {Defs: []api.Def{{Name: "f", Chans: letters(1), Types: []api.Type{{Kind: api.Var, Name: "t"}}, Body: stop()}}}, main(row(201)), main(endlessProc(ends(stop()))), main(api.Proc{})}
	for _, x := range sound() {
		for _, c := range allChanges() {
			p := x.p
			c.do(&p)
			programs = append(programs, main(p))
		}
	}
	for i, p := range programs {
		s, e := syntax.Write(p)
		if want := syntax.Shape(p); e != want || (s == "") != (want != api.OK) {
			t.Errorf("program %d: %q, %d, want %d", i, s, e, want)
		}
	}
}

// maker of programs, each part of which is any one that may stand there.
type maker struct{ *rand.Rand }

func (m maker) name() string {
	names := []string{"a", "b", "c", "x", "abcdefgh", "stop", "def", "send", "end", "if", "else", "int", "rec", "neg"}
	return names[m.Intn(len(names))]
}

func (m maker) procName() string { return []string{"f", "main", "abcdefgh", "int", "rec"}[m.Intn(5)] }

func (m maker) names() []string {
	var out []string
	for range max(0, m.Intn(9)-2) {
		out = append(out, m.name())
	}
	return out
}

func (m maker) expr() api.Expr {
	texts := []string{"1", "-5", "- 5", "true", "x", "stop", "end", "x + 1 < 2 * (y - 3)", "not (a or b) and c", `"a;}\n\"\\{"`, `#"é" == - -1`, "(a == b) == (c == d)", "a ++ (b ++ c)", `""`}
	return expr(texts[m.Intn(len(texts))])
}

func (m maker) typed() api.Type {
	texts := []string{"end", "!int.end", "?{!bool.end}.?text.end", "rec t.+{go:!int.t,no:end}", "rec rect.&{a:rect,end:end,rec:rec a.!{a}.rect}"}
	return typed(texts[m.Intn(len(texts))])
}

// labels are some of those that there are, in order.
func (m maker) labels() []string {
	all := []string{"a", "aa", "case", "def", "end", "go", "rec", "stop"}
	for len(all) > 6 || len(all) > 1 && m.Intn(3) > 0 {
		k := m.Intn(len(all))
		all = slices.Delete(all, k, k+1)
	}
	return all
}

func (m maker) proc(deep int) api.Proc {
	p := api.Proc{Kind: 1 + m.Intn(13)}
	if deep == 0 {
		p.Kind = []int{api.Stop, api.Call}[m.Intn(2)]
	}
	kids := 1
	switch p.Kind {
	case api.Stop:
		kids = 0
	case api.PSend:
		p.Chan, p.Expr = m.name(), m.expr()
	case api.PRecv, api.PGive, api.PTake:
		p.Chan, p.Name = m.name(), m.name()
	case api.PPick:
		p.Chan, p.Label = m.name(), m.name()
	case api.PCase:
		p.Chan, p.Labels = m.name(), m.labels()
		kids = len(p.Labels)
	case api.PEnd:
		p.Chan = m.name()
	case api.Spawn:
		p.Chan, p.Type, p.Names, kids = m.name(), m.typed(), m.names(), 2
	case api.If:
		p.Expr, kids = m.expr(), 2
	case api.Let:
		p.Name, p.Expr = m.name(), m.expr()
	case api.Print:
		p.Expr = m.expr()
	case api.Call:
		p.Name, p.Names, kids = m.procName(), m.names(), 0
		for range max(0, m.Intn(9)-2) {
			p.Exprs = append(p.Exprs, m.expr())
		}
	}
	for range kids {
		p.Kids = append(p.Kids, m.proc(m.Intn(max(deep, 1))))
	}
	return p
}

func (m maker) program() api.Program {
	var p api.Program
	for range 1 + m.Intn(3) {
		d := api.Def{Name: m.procName(), Values: m.names(), Chans: m.names(), Body: m.proc(1 + m.Intn(6))}
		for range d.Values {
			d.Sorts = append(d.Sorts, 1+m.Intn(3))
		}
		for range d.Chans {
			d.Types = append(d.Types, m.typed())
		}
		p.Defs = append(p.Defs, d)
	}
	return p
}

func TestP26WhatIsWrittenIsReadAsItWas(t *testing.T) {
	m := maker{rand.New(rand.NewSource(26))}
	read := 0
	for range 20000 {
		p := m.program()
		s, e := syntax.Write(p)
		if e != syntax.Shape(p) {
			t.Fatalf("Write: %q, %d", s, e)
		}
		if e != api.OK || len(s) > api.MaxSource {
			continue
		}
		read++
		q, f := syntax.Parse(s)
		if f != (api.Fault{}) || !reflect.DeepEqual(p, q) {
			t.Fatalf("Parse(%q): %v, %v, want %v", s, q, f, p)
		}
	}
	if read < 15000 {
		t.Errorf("only %d were short enough to be read", read)
	}
}
