package project_test

import (
	"math"
	"reflect"
	"slices"
	"strings"
	"testing"

	"duet/api"
	"duet/project"
)

func end() api.Local { return api.Local{Kind: api.End} }

func variable(name string) api.Local { return api.Local{Kind: api.Var, Name: name} }

func rec(name string, body api.Local) api.Local {
	return api.Local{Kind: api.Rec, Name: name, Kids: []api.Local{body}}
}

func send(with string, sort int, next api.Local) api.Local {
	return api.Local{Kind: api.Send, With: with, Sort: sort, Kids: []api.Local{next}}
}

func recv(with string, sort int, next api.Local) api.Local {
	return api.Local{Kind: api.Recv, With: with, Sort: sort, Kids: []api.Local{next}}
}

// choice is a Pick or an Offer with the labels of a text, with blanks between them.
func choice(kind int, with, labels string, kids ...api.Local) api.Local {
	return api.Local{Kind: kind, With: with, Labels: strings.Fields(labels), Kids: kids}
}

// sends is so many parts ahead of what comes last.
func sends(parts int, last api.Local) api.Local {
	for range parts {
		last = send("b", api.Int, last)
	}
	return last
}

func recs(parts int, last api.Local) api.Local {
	for range parts {
		last = rec("t", last)
	}
	return last
}

// endless is its own last Kid.
func endless(l api.Local) api.Local {
	kids := slices.Clone(l.Kids)
	l.Kids = kids
	kids[len(kids)-1] = l
	return l
}

// plain writes any of them, whatever is wrong in it, so that two that differ in what is in them are written differently.
func plain(l api.Local) string {
	s := "[" + strings.Repeat("k", l.Kind) + " " + l.With + " " + strings.Repeat("s", l.Sort) + " " + l.Name + " " + strings.Join(l.Labels, ",")
	for _, kid := range l.Kids {
		s += plain(kid)
	}
	return s + "]"
}

// small is all of so many parts, with variables a and t, whatever Check says of them.
func small(parts int) []api.Local {
	if parts == 1 {
		return []api.Local{end(), variable("a"), variable("t")}
	}
	var out []api.Local
	for _, kid := range small(parts - 1) {
		out = append(out, rec("a", kid), rec("t", kid), send("b", api.Bool, kid), recv("b", api.Bool, kid), recv("h", api.Text, kid), choice(api.Offer, "b", "a", kid))
	}
	for first := 1; first < parts-1; first++ {
		for _, x := range small(first) {
			for _, y := range small(parts - 1 - first) {
				out = append(out, choice(api.Pick, "a", "a b", x, y), choice(api.Offer, "b", "b end", x, y))
			}
		}
	}
	return out
}

// right is those of up to so many parts that Check lets pass.
func right(parts int) []api.Local {
	var out []api.Local
	for size := 1; size <= parts; size++ {
		for _, l := range small(size) {
			if project.Check(l) == api.OK {
				out = append(out, l)
			}
		}
	}
	return out
}

// said is what Check must say of small ones, in which each part has what its kind has.
func said(l api.Local, around string) api.Errno {
	switch l.Kind {
	case api.Var:
		if !strings.Contains(around, l.Name) {
			return api.ErrName
		}
	case api.Rec:
		around += l.Name
		if behindRecs(l).Kind == api.Var {
			return api.ErrType
		}
	}
	for _, kid := range l.Kids {
		if e := said(kid, around); e != api.OK {
			return e
		}
	}
	return api.OK
}

func behindRecs(l api.Local) api.Local {
	if l.Kind == api.Rec {
		return behindRecs(l.Kids[0])
	}
	return l
}

type spoiltLocal struct {
	l    api.Local
	want api.Errno
}

// having is what is wrong with a part that has one thing more, or another one.
func having(l api.Local, change func(*api.Local)) api.Local {
	change(&l)
	return l
}

// overfull holds parts of each kind that have something which their kind has not.
func overfull() []api.Local {
	e := end()
	with, sort, name := func(l *api.Local) { l.With = "b" }, func(l *api.Local) { l.Sort = 1 }, func(l *api.Local) { l.Name = "t" }
	labels, kid := func(l *api.Local) { l.Labels = []string{"a"} }, func(l *api.Local) { l.Kids = append(slices.Clone(l.Kids), e) }
	var out []api.Local
	for _, x := range []struct {
		l       api.Local
		changes []func(*api.Local)
	}{
		{e, []func(*api.Local){with, sort, name, labels, kid}},
		{send("b", api.Int, e), []func(*api.Local){name, labels, kid}},
		{recv("b", api.Int, e), []func(*api.Local){name, labels, kid}},
		{choice(api.Pick, "b", "b", e), []func(*api.Local){sort, name, kid}},
		{choice(api.Offer, "b", "b", e), []func(*api.Local){sort, name, kid}},
		{rec("t", e), []func(*api.Local){with, sort, labels, kid}},
		{variable("t"), []func(*api.Local){with, sort, labels, kid}},
	} {
		for _, change := range x.changes {
			out = append(out, having(x.l, change))
		}
	}
	return out
}

// lone holds what is no part, whatever is around it.
func lone() []api.Local {
	e := end()
	out := append(overfull(),
		api.Local{}, api.Local{Kind: 10}, api.Local{Kind: -1}, api.Local{Kind: math.MaxInt}, api.Local{Kind: math.MinInt},
		// Kinds of types alone.
		api.Local{Kind: api.Give, With: "b", Kids: []api.Local{e, e}}, api.Local{Kind: api.Take, With: "b", Kids: []api.Local{e, e}}, api.Local{Kind: api.Give, Kids: []api.Local{e, e}}, api.Local{Kind: api.Take, Kids: []api.Local{e, e}},
		rec("", e), rec("end", e), rec("rec", e), rec("not", e), rec("T", e), rec("abcdefghi", e), rec("a!b", e), api.Local{Kind: api.Rec, Name: "t"},
		variable(""), variable("end"), variable("rec"), variable("and"), variable("T"), variable("abcdefghi"),
	)
	for _, kind := range []int{api.Send, api.Recv} {
		for _, sort := range []int{0, 4, -1, math.MaxInt, math.MinInt} {
			out = append(out, api.Local{Kind: kind, With: "b", Sort: sort, Kids: []api.Local{e}})
		}
		out = append(out, api.Local{Kind: kind, With: "b", Sort: 1})
	}
	for _, kind := range []int{api.Pick, api.Offer} {
		out = append(out,
			choice(kind, "b", ""), choice(kind, "b", "", e), choice(kind, "b", "a"), choice(kind, "b", "a", e, e), choice(kind, "b", "a b", e), choice(kind, "b", "b a", e, e), choice(kind, "b", "a a", e, e), choice(kind, "b", "a c b", e, e, e), choice(kind, "b", "b c a", e, e, e),
			choice(kind, "b", "a b c d e f g", e, e, e, e, e, e, e), choice(kind, "b", "not", e), choice(kind, "b", "a true", e, e), choice(kind, "b", "abcdefghi", e), choice(kind, "b", "A", e), choice(kind, "b", "a1", e), choice(kind, "b", "a é", e, e),
			api.Local{Kind: kind, With: "b", Labels: []string{""}, Kids: []api.Local{e}},
		)
	}
	for _, with := range []string{"", "i", "z", "A", "ab", "bb", " b", "b ", "1", "`", "é", "\xff", "b\x00", "end"} {
		out = append(out, send(with, 1, e), recv(with, 1, e), choice(api.Pick, with, "a", e), choice(api.Offer, with, "a", e))
	}
	return out
}

// spoilt holds what nobody does, with what Check says of it.
func spoilt() []spoiltLocal {
	var out []spoiltLocal
	for _, l := range lone() {
		out = append(out, spoiltLocal{l, api.ErrArg}, spoiltLocal{choice(api.Offer, "a", "a b", end(), send("b", api.Int, choice(api.Pick, "b", "a b", l, variable("x")))), api.ErrArg})
	}
	none, bad, idle := api.Local{}, variable("x"), rec("t", variable("t"))
	two := func(x, y api.Local) api.Local { return choice(api.Offer, "b", "a b", x, y) }
	return append(out, []spoiltLocal{
		{bad, api.ErrName}, {variable("b"), api.ErrName}, {send("b", api.Int, variable("b")), api.ErrName}, {recv("b", api.Int, bad), api.ErrName}, {choice(api.Pick, "b", "x", bad), api.ErrName},
		{rec("t", send("b", api.Int, bad)), api.ErrName},
		{two(rec("x", send("b", api.Int, variable("x"))), bad), api.ErrName},
		{two(bad, rec("x", send("b", api.Int, variable("x")))), api.ErrName},
		{choice(api.Pick, "b", "a b c", rec("x", end()), end(), bad), api.ErrName},
		{idle, api.ErrType},
		{rec("t", idle), api.ErrType},
		{rec("s", rec("t", variable("s"))), api.ErrType},
		{recv("b", api.Int, idle), api.ErrType},
		{rec("s", send("b", api.Int, rec("t", variable("s")))), api.ErrType},
		{two(end(), idle), api.ErrType},
		// Of one part ErrType goes ahead of what is inside.
		{rec("t", bad), api.ErrType},
		{rec("t", variable("")), api.ErrType},
		{rec("t", rec("", bad)), api.ErrType},
		{rec("t", rec("", end())), api.ErrArg},
		{rec("t", api.Local{Kind: api.Rec, Name: "s"}), api.ErrArg},
		{rec("", variable("t")), api.ErrArg},
		// The first one in going through is told: outermost first, then Kids in order.
		{two(none, bad), api.ErrArg},
		{two(bad, none), api.ErrName},
		{two(idle, none), api.ErrType},
		{two(bad, idle), api.ErrName},
		{two(send("b", api.Int, bad), none), api.ErrName},
		{two(end(), send("i", api.Int, bad)), api.ErrArg},
		{choice(api.Offer, "", "a b", bad, idle), api.ErrArg},
		{choice(api.Offer, "b", "b a", bad, idle), api.ErrArg},
		// Too many parts.
		{sends(60, end()), api.ErrLarge},
		{sends(60, none), api.ErrLarge},
		{sends(60, bad), api.ErrLarge},
		{sends(59, none), api.ErrArg},
		{sends(59, bad), api.ErrName},
		{sends(58, idle), api.ErrType},
		{sends(60, idle), api.ErrLarge},
		{two(sends(58, end()), none), api.ErrLarge},
		{two(sends(57, end()), none), api.ErrArg},
		{two(none, sends(60, end())), api.ErrArg},
		{two(sends(60, end()), none), api.ErrLarge},
		{recs(60, end()), api.ErrLarge},
		{recs(59, variable("t")), api.ErrType},
		{recs(1000, variable("t")), api.ErrType},
		{recs(65000, end()), api.ErrLarge},
		{endless(send("b", api.Int, end())), api.ErrLarge},
		{endless(two(end(), end())), api.ErrLarge},
		{endless(rec("t", end())), api.ErrLarge},
		{endless(rec("t", recv("b", api.Int, end()))), api.ErrLarge},
	}...)
}

func TestP37CheckTakesWhatRolesDo(t *testing.T) {
	e := end()
	list := []api.Local{
		e, recv("a", api.Int, send("b", api.Int, e)), choice(api.Pick, "g", "a b c d e f", e, e, e, e, e, e), choice(api.Offer, "g", "a b c d e f", e, e, e, e, e, e), choice(api.Pick, "b", "end rec", e, e), choice(api.Offer, "a", "a aa ab abcdefgh b", e, e, e, e, e),
		rec("t", e), rec("t", rec("t", e)), rec("a", send("a", api.Int, variable("a"))), rec("abcdefgh", recv("b", api.Int, variable("abcdefgh"))), rec("t", choice(api.Offer, "b", "a b", variable("t"), variable("t"))),
		rec("t", rec("s", choice(api.Pick, "b", "a b", variable("t"), variable("s")))), rec("t", rec("t", send("b", api.Int, variable("t")))), rec("t", send("b", api.Int, rec("s", choice(api.Offer, "c", "a b", variable("t"), variable("s"))))),
		sends(59, e), recs(59, e), rec("t", sends(58, variable("t"))), choice(api.Pick, "b", "a b", sends(57, e), e),
		{Kind: api.End, Labels: []string{}, Kids: []api.Local{}}, {Kind: api.Send, With: "b", Sort: 1, Labels: []string{}, Kids: []api.Local{e}},
	}
	for _, with := range strings.Split("abcdefgh", "") {
		for sort := api.Int; sort <= api.Text; sort++ {
			list = append(list, send(with, sort, e), recv(with, sort, e))
		}
		list = append(list, choice(api.Pick, with, "a", e), choice(api.Offer, with, "a", e))
	}
	for i, l := range list {
		if got := project.Check(l); got != api.OK {
			t.Errorf("Check of %d: %d", i, got)
		}
	}
}

func TestP37CheckRefusesOthers(t *testing.T) {
	for i, x := range spoilt() {
		if e := project.Check(x.l); e != x.want {
			t.Errorf("spoilt %d: %d, want %d", i, e, x.want)
		}
	}
}

func TestP37CheckOfAllSmallOnes(t *testing.T) {
	counts := map[api.Errno]int{}
	for parts := 1; parts <= 5; parts++ {
		for _, l := range small(parts) {
			e := project.Check(l)
			counts[e]++
			if want := said(l, ""); e != want {
				t.Fatalf("Check(%s) = %d, want %d", plain(l), e, want)
			}
		}
	}
	if counts[api.OK] == 0 || counts[api.ErrName] == 0 || counts[api.ErrType] == 0 {
		t.Errorf("too few kinds of small ones: %v", counts)
	}
}

func TestP37CallsAnswerFirstWhatCheckSays(t *testing.T) {
	many := choice(api.Offer, "b", "a", choice(api.Pick, "c", "a", end()))
	for i, x := range spoilt() {
		s, e := project.Write(x.l)
		if s != "" || e != x.want {
			t.Errorf("Write of spoilt %d: %q, %d, want %d", i, s, e, x.want)
		}
		y, e := project.Type(x.l)
		if !reflect.DeepEqual(y, api.Type{}) || e != x.want {
			t.Errorf("Type of spoilt %d: %v, %d, want %d", i, y, e, x.want)
		}
		for _, pair := range [][2]api.Local{{x.l, end()}, {end(), x.l}, {x.l, many}, {many, x.l}, {x.l, x.l}} {
			l, e := project.Merge(pair[0], pair[1])
			if !reflect.DeepEqual(l, api.Local{}) || e != x.want {
				t.Errorf("Merge with spoilt %d: %v, %d, want %d", i, l, e, x.want)
			}
		}
	}
	// Of two that have errors the first one's is told.
	if _, e := project.Merge(variable("x"), api.Local{}); e != api.ErrName {
		t.Errorf("Merge: %d", e)
	}
	if _, e := project.Merge(api.Local{}, variable("x")); e != api.ErrArg {
		t.Errorf("Merge: %d", e)
	}
}
