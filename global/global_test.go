package global_test

import (
	"math"
	"reflect"
	"slices"
	"strings"
	"testing"

	"duet/api"
	"duet/global"
)

func end() api.Global { return api.Global{Kind: api.End} }

func variable(name string) api.Global { return api.Global{Kind: api.Var, Name: name} }

func rec(name string, body api.Global) api.Global {
	return api.Global{Kind: api.Rec, Name: name, Kids: []api.Global{body}}
}

// send has both roles in one text, as do picks.
func send(roles string, sort int, next api.Global) api.Global {
	return api.Global{Kind: api.Send, From: roles[:1], To: roles[1:], Sort: sort, Kids: []api.Global{next}}
}

// pick has the labels of a text, with blanks between them.
func pick(roles, labels string, kids ...api.Global) api.Global {
	return api.Global{Kind: api.Pick, From: roles[:1], To: roles[1:], Labels: strings.Fields(labels), Kids: kids}
}

// sends is a conversation of so many parts ahead of what comes last.
func sends(parts int, last api.Global) api.Global {
	for range parts {
		last = send("ab", api.Int, last)
	}
	return last
}

func recs(parts int, last api.Global) api.Global {
	for range parts {
		last = rec("t", last)
	}
	return last
}

// endless is a conversation that is its own last Kid.
func endless(g api.Global) api.Global {
	kids := slices.Clone(g.Kids)
	g.Kids = kids
	kids[len(kids)-1] = g
	return g
}

// plain writes any conversation, whatever is wrong in it, so that two that differ in what is in them are written differently.
func plain(g api.Global) string {
	s := "[" + strings.Repeat("k", g.Kind) + " " + g.From + " " + g.To + " " + strings.Repeat("s", g.Sort) + " " + g.Name + " " + strings.Join(g.Labels, ",")
	for _, kid := range g.Kids {
		s += plain(kid)
	}
	return s + "]"
}

// parsed is for texts of which a test takes it for granted that they are read.
func parsed(t *testing.T, s string) api.Global {
	t.Helper()
	g, f := global.Parse(s)
	if f.Code != api.OK {
		t.Fatalf("Parse(%q): %v", s, f)
	}
	return g
}

// small is all of so many parts, with variables a and t, whatever Check says of them.
func small(parts int) []api.Global {
	if parts == 1 {
		return []api.Global{end(), variable("a"), variable("t")}
	}
	var out []api.Global
	for _, kid := range small(parts - 1) {
		out = append(out, rec("a", kid), rec("t", kid), send("ab", api.Bool, kid), send("ha", api.Text, kid), pick("bg", "a", kid))
	}
	for first := 1; first < parts-1; first++ {
		for _, x := range small(first) {
			for _, y := range small(parts - 1 - first) {
				out = append(out, pick("ab", "a b", x, y), pick("ca", "end t", x, y))
			}
		}
	}
	return out
}

// said is what Check must say of small ones, in which each part has what its kind has.
func said(g api.Global, around string) api.Errno {
	switch g.Kind {
	case api.Var:
		if !strings.Contains(around, g.Name) {
			return api.ErrName
		}
	case api.Rec:
		around += g.Name
		if behindRecs(g).Kind == api.Var {
			return api.ErrType
		}
	}
	for _, kid := range g.Kids {
		if e := said(kid, around); e != api.OK {
			return e
		}
	}
	return api.OK
}

func behindRecs(g api.Global) api.Global {
	if g.Kind == api.Rec {
		return behindRecs(g.Kids[0])
	}
	return g
}

type spoiltGlobal struct {
	g    api.Global
	want api.Errno
}

// having is what is wrong with a part that has one thing more, or another one.
func having(g api.Global, change func(*api.Global)) api.Global {
	change(&g)
	return g
}

// overfull holds parts of each kind that have something which their kind has not.
func overfull() []api.Global {
	e := end()
	from, to := func(g *api.Global) { g.From = "a" }, func(g *api.Global) { g.To = "b" }
	both := func(g *api.Global) { g.From, g.To = "a", "b" }
	sort, name := func(g *api.Global) { g.Sort = 1 }, func(g *api.Global) { g.Name = "t" }
	labels, kid := func(g *api.Global) { g.Labels = []string{"a"} }, func(g *api.Global) { g.Kids = append(slices.Clone(g.Kids), e) }
	var out []api.Global
	for _, x := range []struct {
		g       api.Global
		changes []func(*api.Global)
	}{
		{e, []func(*api.Global){from, to, both, sort, name, labels, kid}},
		{send("ab", api.Int, e), []func(*api.Global){name, labels, kid}},
		{pick("ab", "b", e), []func(*api.Global){sort, name, kid}},
		{rec("t", e), []func(*api.Global){from, to, both, sort, labels, kid}},
		{variable("t"), []func(*api.Global){from, to, both, sort, labels, kid}},
	} {
		for _, change := range x.changes {
			out = append(out, having(x.g, change))
		}
	}
	return out
}

// lone holds what is no part, whatever is around it.
func lone() []api.Global {
	e := end()
	out := append(overfull(),
		api.Global{}, api.Global{Kind: 10}, api.Global{Kind: -1}, api.Global{Kind: math.MaxInt}, api.Global{Kind: math.MinInt},
		// Kinds of types alone.
		api.Global{Kind: api.Recv, From: "a", To: "b", Sort: 1, Kids: []api.Global{e}}, api.Global{Kind: api.Offer, From: "a", To: "b", Labels: []string{"a"}, Kids: []api.Global{e}},
		api.Global{Kind: api.Give, From: "a", To: "b", Kids: []api.Global{e, e}}, api.Global{Kind: api.Take, From: "a", To: "b", Kids: []api.Global{e, e}},
		api.Global{Kind: api.Recv, Sort: 1, Kids: []api.Global{e}}, api.Global{Kind: api.Offer, Labels: []string{"a"}, Kids: []api.Global{e}},
		// Sorts, Kids, labels, names.
		send("ab", 0, e), send("ab", 4, e), send("ab", -1, e), send("ab", math.MaxInt, e), api.Global{Kind: api.Send, From: "a", To: "b", Sort: 1},
		pick("ab", ""), pick("ab", "", e), pick("ab", "a"), pick("ab", "a", e, e), pick("ab", "a b", e), pick("ab", "b a", e, e), pick("ab", "a a", e, e), pick("ab", "a c b", e, e, e), pick("ab", "b c a", e, e, e),
		pick("ab", "a b c d e f g", e, e, e, e, e, e, e), pick("ab", "not", e), pick("ab", "a true", e, e), pick("ab", "abcdefghi", e), pick("ab", "A", e), pick("ab", "a1", e), pick("ab", "a é", e, e),
		api.Global{Kind: api.Pick, From: "a", To: "b", Labels: []string{""}, Kids: []api.Global{e}},
		rec("", e), rec("end", e), rec("rec", e), rec("not", e), rec("T", e), rec("abcdefghi", e), rec("a>b", e), api.Global{Kind: api.Rec, Name: "t"},
		variable(""), variable("end"), variable("rec"), variable("and"), variable("T"), variable("abcdefghi"),
	)
	// Of both roles one is none, or both are one.
	for _, x := range []struct{ from, to string }{{"", ""}, {"", "b"}, {"a", ""}, {"a", "a"}, {"h", "h"}, {"i", "a"}, {"a", "i"}, {"z", "y"}, {"A", "b"}, {"a", "B"}, {"ab", "c"}, {"a", "bc"}, {"1", "a"}, {" a", "b"}, {"a", "b "}, {"a", "é"}, {"\xff", "a"}, {"`", "a"}} {
		out = append(out, api.Global{Kind: api.Send, From: x.from, To: x.to, Sort: 1, Kids: []api.Global{e}}, api.Global{Kind: api.Pick, From: x.from, To: x.to, Labels: []string{"a"}, Kids: []api.Global{e}})
	}
	return out
}

// spoilt holds what is no conversation, with what Check says of it.
func spoilt() []spoiltGlobal {
	var out []spoiltGlobal
	for _, g := range lone() {
		out = append(out, spoiltGlobal{g, api.ErrArg}, spoiltGlobal{pick("ba", "a b", end(), send("ab", api.Int, pick("ab", "a b", g, variable("x")))), api.ErrArg})
	}
	none, bad, idle := api.Global{}, variable("x"), rec("t", variable("t"))
	two := func(x, y api.Global) api.Global { return pick("ab", "a b", x, y) }
	return append(out, []spoiltGlobal{
		{bad, api.ErrName}, {variable("a"), api.ErrName}, {send("ab", api.Int, variable("a")), api.ErrName},
		{send("ab", api.Int, bad), api.ErrName},
		{rec("t", send("ab", api.Int, bad)), api.ErrName},
		{two(rec("x", send("ab", api.Int, variable("x"))), bad), api.ErrName},
		{two(bad, rec("x", send("ab", api.Int, variable("x")))), api.ErrName},
		{pick("ab", "a b c", rec("x", end()), end(), bad), api.ErrName},
		{idle, api.ErrType},
		{rec("t", idle), api.ErrType},
		{rec("s", rec("t", variable("s"))), api.ErrType},
		{send("ab", api.Int, idle), api.ErrType},
		{rec("s", send("ab", api.Int, rec("t", variable("s")))), api.ErrType},
		{two(end(), idle), api.ErrType},
		// Of one part ErrType goes ahead of what is inside.
		{rec("t", bad), api.ErrType},
		{rec("t", variable("")), api.ErrType},
		{rec("t", rec("", bad)), api.ErrType},
		{rec("t", rec("", end())), api.ErrArg},
		{rec("t", api.Global{Kind: api.Rec, Name: "s"}), api.ErrArg},
		{rec("", variable("t")), api.ErrArg},
		// The first one in going through is told: outermost first, then Kids in order.
		{two(none, bad), api.ErrArg},
		{two(bad, none), api.ErrName},
		{two(idle, none), api.ErrType},
		{two(bad, idle), api.ErrName},
		{two(send("ab", api.Int, bad), none), api.ErrName},
		{two(end(), send("aa", api.Int, bad)), api.ErrArg},
		{pick("aa", "a b", bad, idle), api.ErrArg},
		{pick("ab", "b a", bad, idle), api.ErrArg},
		// Too many parts.
		{sends(60, end()), api.ErrLarge},
		{sends(60, none), api.ErrLarge},
		{sends(60, bad), api.ErrLarge},
		{sends(59, none), api.ErrArg},
		{sends(59, bad), api.ErrName},
		{sends(58, idle), api.ErrType},
		{sends(60, idle), api.ErrLarge},
		{two(sends(58, end()), none), api.ErrLarge},
		{two(sends(57, end()), none), api.ErrArg},
		{two(none, sends(60, end())), api.ErrArg},
		{two(sends(60, end()), none), api.ErrLarge},
		{recs(60, end()), api.ErrLarge},
		{recs(59, variable("t")), api.ErrType},
		{recs(60, variable("t")), api.ErrType},
		{recs(1000, variable("t")), api.ErrType},
		{recs(65000, end()), api.ErrLarge},
		{endless(send("ab", api.Int, end())), api.ErrLarge},
		{endless(two(end(), end())), api.ErrLarge},
		{endless(rec("t", end())), api.ErrLarge},
		{endless(rec("t", send("ab", api.Int, end()))), api.ErrLarge},
	}...)
}

func TestP34IsRole(t *testing.T) {
	for b := range 256 {
		s := string([]byte{byte(b)})
		if got, want := global.IsRole(s), strings.Contains("abcdefgh", s); got != want {
			t.Errorf("IsRole(%q): %v", s, got)
		}
	}
	for _, s := range []string{"", "ab", "aa", "a ", " a", "a\x00", "é", "abcdefgh", "ａ", "\u0430"} {
		if global.IsRole(s) {
			t.Errorf("%q is no role", s)
		}
	}
}

func TestP34CheckTakesConversations(t *testing.T) {
	e := end()
	list := []api.Global{
		e, send("ab", api.Int, e), send("ba", api.Bool, e), send("hg", api.Text, e), send("ah", api.Int, send("bc", api.Int, e)),
		pick("ab", "a", e), pick("gh", "a b c d e f", e, e, e, e, e, e), pick("ab", "end rec", e, e), pick("ca", "a aa ab abcdefgh b", e, e, e, e, e),
		rec("t", e), rec("t", rec("t", e)), rec("a", send("ab", api.Int, variable("a"))), rec("abcdefgh", send("ab", api.Int, variable("abcdefgh"))), rec("t", pick("ab", "a b", variable("t"), variable("t"))),
		rec("t", rec("s", pick("ab", "a b", variable("t"), variable("s")))), rec("t", rec("t", send("ab", api.Int, variable("t")))), rec("t", send("ab", api.Int, rec("s", pick("cd", "a b", variable("t"), variable("s"))))),
		sends(59, e), recs(59, e), rec("t", sends(58, variable("t"))), pick("ab", "a b", sends(57, e), e),
		{Kind: api.End, Labels: []string{}, Kids: []api.Global{}}, {Kind: api.Send, From: "a", To: "b", Sort: 1, Labels: []string{}, Kids: []api.Global{e}},
	}
	for _, from := range "abcdefgh" {
		for _, to := range "abcdefgh" {
			if from != to {
				list = append(list, send(string(from)+string(to), api.Int, e), pick(string(from)+string(to), "a", e))
			}
		}
	}
	for i, g := range list {
		if got := global.Check(g); got != api.OK {
			t.Errorf("Check of %d: %d", i, got)
		}
	}
}

func TestP34CheckRefusesOthers(t *testing.T) {
	for i, x := range spoilt() {
		if e := global.Check(x.g); e != x.want {
			t.Errorf("spoilt %d: %d, want %d", i, e, x.want)
		}
	}
}

func TestP34CheckOfAllSmallOnes(t *testing.T) {
	counts := map[api.Errno]int{}
	for parts := 1; parts <= 5; parts++ {
		for _, g := range small(parts) {
			e := global.Check(g)
			counts[e]++
			if want := said(g, ""); e != want {
				t.Fatalf("Check(%s) = %d, want %d", plain(g), e, want)
			}
		}
	}
	if counts[api.OK] == 0 || counts[api.ErrName] == 0 || counts[api.ErrType] == 0 {
		t.Errorf("too few kinds of small ones: %v", counts)
	}
}

func TestP34CallsSayWhatCheckSays(t *testing.T) {
	for i, x := range spoilt() {
		if w, e := global.Write(x.g); w != "" || e != x.want {
			t.Errorf("Write of %d: %q, %d", i, w, e)
		}
		if l, e := global.Roles(x.g); l != nil || e != x.want {
			t.Errorf("Roles of %d: %q, %d", i, l, e)
		}
		// Whatever else is wrong.
		for _, from := range [][]string{nil, {"a"}, {"i"}, {"b", "b"}} {
			if h, e := global.Rename(x.g, from, []string{"b"}); !reflect.DeepEqual(h, api.Global{}) || e != x.want {
				t.Errorf("Rename of %d: %v, %d", i, h, e)
			}
		}
	}
}
