package types_test

import (
	"math"
	"reflect"
	"slices"
	"strings"
	"testing"

	"duet/api"
	"duet/types"
)

func end() api.Type { return api.Type{Kind: api.End} }

func variable(name string) api.Type { return api.Type{Kind: api.Var, Name: name} }

func rec(name string, body api.Type) api.Type {
	return api.Type{Kind: api.Rec, Name: name, Kids: []api.Type{body}}
}

func send(sort int, next api.Type) api.Type {
	return api.Type{Kind: api.Send, Sort: sort, Kids: []api.Type{next}}
}

func give(carried, next api.Type) api.Type {
	return api.Type{Kind: api.Give, Kids: []api.Type{carried, next}}
}

// choice has the labels of a text, with blanks between them.
func choice(kind int, labels string, kids ...api.Type) api.Type {
	return api.Type{Kind: kind, Labels: strings.Fields(labels), Kids: kids}
}

// sends is a type of so many parts ahead of what comes last.
func sends(parts int, last api.Type) api.Type {
	for range parts {
		last = send(api.Int, last)
	}
	return last
}

func recs(parts int, last api.Type) api.Type {
	for range parts {
		last = rec("t", last)
	}
	return last
}

// endless is a type that is its own last Kid.
func endless(t api.Type) api.Type {
	kids := slices.Clone(t.Kids)
	t.Kids = kids
	kids[len(kids)-1] = t
	return t
}

// plain writes any type, whatever is wrong in it, so that two that differ in what is in them are written differently.
func plain(t api.Type) string {
	s := "[" + strings.Repeat("k", t.Kind) + " " + strings.Repeat("s", t.Sort) + " " + t.Name + " " + strings.Join(t.Labels, ",")
	for _, kid := range t.Kids {
		s += plain(kid)
	}
	return s + "]"
}

// parsed is for texts of which a test takes it for granted that they are read.
func parsed(t *testing.T, s string) api.Type {
	t.Helper()
	x, f := types.Parse(s)
	if f.Code != api.OK {
		t.Fatalf("Parse(%q): %v", s, f)
	}
	return x
}

// small is all of so many parts, with variables s and t, whatever Check says of them.
func small(parts int) []api.Type {
	if parts == 1 {
		return []api.Type{end(), variable("s"), variable("t")}
	}
	var out []api.Type
	for _, kid := range small(parts - 1) {
		out = append(out, rec("s", kid), rec("t", kid), send(api.Bool, kid),
			api.Type{Kind: api.Recv, Sort: api.Text, Kids: []api.Type{kid}}, choice(api.Pick, "a", kid))
	}
	for first := 1; first < parts-1; first++ {
		for _, x := range small(first) {
			for _, y := range small(parts - 1 - first) {
				out = append(out, give(x, y), choice(api.Offer, "a b", x, y))
			}
		}
	}
	return out
}

// said is what Check must say of small ones, in which each part has what its kind has.
func said(t api.Type, around string) api.Errno {
	switch t.Kind {
	case api.Var:
		if !strings.Contains(around, t.Name) {
			return api.ErrName
		}
	case api.Rec:
		around += t.Name
		if behindRecs(t).Kind == api.Var {
			return api.ErrType
		}
	}
	for _, kid := range t.Kids {
		if e := said(kid, around); e != api.OK {
			return e
		}
	}
	return api.OK
}

func behindRecs(t api.Type) api.Type {
	if t.Kind == api.Rec {
		return behindRecs(t.Kids[0])
	}
	return t
}

type spoiltType struct {
	t    api.Type
	want api.Errno
}

// lone holds what is no part, whatever is around it.
func lone() []api.Type {
	e := end()
	return []api.Type{
		{}, {Kind: 10}, {Kind: -1}, {Kind: math.MaxInt}, {Kind: math.MinInt},
		{Kind: api.End, Sort: 1}, {Kind: api.End, Name: "t"}, {Kind: api.End, Labels: []string{"a"}}, {Kind: api.End, Labels: []string{""}}, {Kind: api.End, Kids: []api.Type{e}},
		{Kind: api.Send, Kids: []api.Type{e}}, {Kind: api.Send, Sort: 4, Kids: []api.Type{e}}, {Kind: api.Send, Sort: -1, Kids: []api.Type{e}}, {Kind: api.Send, Sort: 1},
		{Kind: api.Send, Sort: 1, Kids: []api.Type{e, e}}, {Kind: api.Send, Sort: 1, Name: "t", Kids: []api.Type{e}}, {Kind: api.Send, Sort: 1, Labels: []string{"a"}, Kids: []api.Type{e}},
		{Kind: api.Recv, Kids: []api.Type{e}}, {Kind: api.Recv, Sort: 4, Kids: []api.Type{e}}, {Kind: api.Recv, Sort: 3}, {Kind: api.Recv, Sort: 3, Kids: []api.Type{e, e}},
		{Kind: api.Recv, Sort: 1, Name: "t", Kids: []api.Type{e}}, {Kind: api.Recv, Sort: 1, Labels: []string{"a"}, Kids: []api.Type{e}},
		{Kind: api.Give}, {Kind: api.Give, Kids: []api.Type{e}}, {Kind: api.Give, Kids: []api.Type{e, e, e}}, {Kind: api.Give, Sort: 1, Kids: []api.Type{e, e}}, {Kind: api.Give, Name: "t", Kids: []api.Type{e, e}}, {Kind: api.Give, Labels: []string{"a", "b"}, Kids: []api.Type{e, e}},
		{Kind: api.Take}, {Kind: api.Take, Kids: []api.Type{e}}, {Kind: api.Take, Kids: []api.Type{e, e, e}}, {Kind: api.Take, Sort: 1, Kids: []api.Type{e, e}}, {Kind: api.Take, Name: "t", Kids: []api.Type{e, e}}, {Kind: api.Take, Labels: []string{"a", "b"}, Kids: []api.Type{e, e}},
		choice(api.Pick, ""), choice(api.Pick, "", e), choice(api.Pick, "a"), choice(api.Pick, "a", e, e), choice(api.Pick, "a b", e), choice(api.Pick, "b a", e, e), choice(api.Pick, "a a", e, e), choice(api.Pick, "a c b", e, e, e), choice(api.Pick, "b c a", e, e, e),
		choice(api.Pick, "a b c d e f g", e, e, e, e, e, e, e), choice(api.Pick, "not", e), choice(api.Pick, "a true", e, e), choice(api.Pick, "abcdefghi", e), choice(api.Pick, "A", e), choice(api.Pick, "a1", e), choice(api.Pick, "a é", e, e),
		{Kind: api.Pick, Labels: []string{""}, Kids: []api.Type{e}}, {Kind: api.Pick, Sort: 1, Labels: []string{"a"}, Kids: []api.Type{e}}, {Kind: api.Pick, Name: "t", Labels: []string{"a"}, Kids: []api.Type{e}},
		choice(api.Offer, ""), choice(api.Offer, "", e), choice(api.Offer, "a"), choice(api.Offer, "a", e, e), choice(api.Offer, "b a", e, e), choice(api.Offer, "a a", e, e),
		choice(api.Offer, "a b c d e f g", e, e, e, e, e, e, e), choice(api.Offer, "or", e), {Kind: api.Offer, Sort: 2, Labels: []string{"a"}, Kids: []api.Type{e}}, {Kind: api.Offer, Name: "t", Labels: []string{"a"}, Kids: []api.Type{e}},
		rec("", e), rec("end", e), rec("rec", e), rec("not", e), rec("T", e), rec("abcdefghi", e), {Kind: api.Rec, Name: "t"}, {Kind: api.Rec, Name: "t", Kids: []api.Type{e, e}},
		{Kind: api.Rec, Name: "t", Sort: 1, Kids: []api.Type{e}}, {Kind: api.Rec, Name: "t", Labels: []string{"a"}, Kids: []api.Type{e}}, {Kind: api.Rec, Name: "t", Labels: []string{"a"}, Kids: []api.Type{variable("t")}},
		variable(""), variable("end"), variable("rec"), variable("and"), variable("T"), variable("abcdefghi"),
		{Kind: api.Var, Name: "t", Sort: 1}, {Kind: api.Var, Name: "t", Labels: []string{"a"}}, {Kind: api.Var, Name: "t", Kids: []api.Type{e}},
	}
}

// spoilt holds what is no type, with what Check says of it.
func spoilt() []spoiltType {
	var out []spoiltType
	for _, t := range lone() {
		out = append(out, spoiltType{t, api.ErrArg}, spoiltType{give(end(), give(t, variable("x"))), api.ErrArg})
	}
	none, bad, idle := api.Type{}, variable("x"), rec("t", variable("t"))
	return append(out, []spoiltType{
		{bad, api.ErrName},
		{send(api.Int, bad), api.ErrName},
		{rec("t", send(api.Int, bad)), api.ErrName},
		{give(rec("x", send(api.Int, variable("x"))), bad), api.ErrName},
		{give(bad, rec("x", send(api.Int, variable("x")))), api.ErrName},
		{choice(api.Pick, "a b", rec("x", end()), bad), api.ErrName},
		{rec("t", choice(api.Pick, "a b", rec("x", send(api.Int, bad)), give(variable("t"), bad))), api.ErrName},
		{idle, api.ErrType},
		{rec("t", idle), api.ErrType},
		{rec("s", rec("t", variable("s"))), api.ErrType},
		{send(api.Int, idle), api.ErrType},
		{rec("s", send(api.Int, rec("t", variable("s")))), api.ErrType},
		{give(idle, end()), api.ErrType},
		// Of one part ErrType goes ahead of what is inside.
		{rec("t", bad), api.ErrType},
		{rec("t", variable("")), api.ErrType},
		{rec("t", rec("", bad)), api.ErrType},
		{rec("t", rec("", end())), api.ErrArg},
		{rec("t", api.Type{Kind: api.Rec, Name: "s"}), api.ErrArg},
		{rec("", variable("t")), api.ErrArg},
		// The first one in going through is told: outermost first, then Kids in order.
		{give(none, bad), api.ErrArg},
		{give(bad, none), api.ErrName},
		{give(idle, none), api.ErrType},
		{give(bad, idle), api.ErrName},
		{give(send(api.Int, bad), none), api.ErrName},
		{choice(api.Offer, "a b c", end(), idle, none), api.ErrType},
		{choice(api.Offer, "b a", bad, idle), api.ErrArg},
		// Too many parts.
		{sends(60, end()), api.ErrLarge},
		{sends(60, none), api.ErrLarge},
		{sends(60, bad), api.ErrLarge},
		{sends(59, none), api.ErrArg},
		{sends(59, bad), api.ErrName},
		{sends(58, idle), api.ErrType},
		{sends(60, idle), api.ErrLarge},
		{give(sends(58, end()), none), api.ErrLarge},
		{give(sends(57, end()), none), api.ErrArg},
		{give(none, sends(60, end())), api.ErrArg},
		{give(sends(60, end()), none), api.ErrLarge},
		{recs(60, end()), api.ErrLarge},
		{recs(59, variable("t")), api.ErrType},
		{recs(60, variable("t")), api.ErrType},
		{recs(1000, variable("t")), api.ErrType},
		{endless(send(api.Int, end())), api.ErrLarge},
		{endless(give(end(), end())), api.ErrLarge},
		{endless(rec("t", end())), api.ErrLarge},
		{endless(rec("t", send(api.Int, end()))), api.ErrLarge},
	}...)
}

func TestP11IsVar(t *testing.T) {
	for _, s := range []string{"a", "z", "t", "abcdefgh", "ende", "en", "recs", "re", "int", "stop"} {
		if !types.IsVar(s) {
			t.Errorf("%q is a name of a Rec", s)
		}
	}
	for _, s := range []string{"", "end", "rec", "true", "false", "and", "or", "not", "abcdefghi", "T", "t1", "t ", " t", "é", "\xff", "a\x00", "`", "{"} {
		if types.IsVar(s) {
			t.Errorf("%q is no name of a Rec", s)
		}
	}
}

func TestP11CheckTakesTypes(t *testing.T) {
	e := end()
	for i, x := range []api.Type{
		e, send(api.Int, e), send(api.Bool, e), send(api.Text, e), {Kind: api.Recv, Sort: api.Int, Kids: []api.Type{e}}, give(e, e), {Kind: api.Take, Kids: []api.Type{e, send(api.Int, e)}},
		choice(api.Pick, "a", e), choice(api.Offer, "a b c d e f", e, e, e, e, e, e), choice(api.Pick, "end rec", e, e), choice(api.Pick, "a aa ab abcdefgh b", e, e, e, e, e),
		rec("t", e), rec("t", rec("t", e)), rec("abcdefgh", send(api.Int, variable("abcdefgh"))), rec("t", give(variable("t"), variable("t"))), rec("t", rec("s", give(variable("t"), variable("s")))),
		rec("t", rec("t", send(api.Int, variable("t")))), rec("t", give(rec("t", send(api.Int, variable("t"))), variable("t"))), rec("t", send(api.Int, rec("s", choice(api.Pick, "a b", variable("t"), variable("s"))))),
		sends(59, e), recs(59, e), rec("t", sends(58, variable("t"))), give(sends(57, e), e),
		{Kind: api.End, Labels: []string{}, Kids: []api.Type{}}, {Kind: api.Send, Sort: 1, Labels: []string{}, Kids: []api.Type{e}},
	} {
		if got := types.Check(x); got != api.OK {
			t.Errorf("Check of %d: %d", i, got)
		}
	}
}

func TestP11CheckRefusesOthers(t *testing.T) {
	for i, s := range spoilt() {
		if e := types.Check(s.t); e != s.want {
			t.Errorf("spoilt %d: %d, want %d", i, e, s.want)
		}
	}
}

func TestP11CheckOfAllSmallOnes(t *testing.T) {
	counts := map[api.Errno]int{}
	for parts := 1; parts <= 5; parts++ {
		for _, x := range small(parts) {
			e := types.Check(x)
			counts[e]++
			if want := said(x, ""); e != want {
				t.Fatalf("Check(%s) = %d, want %d", plain(x), e, want)
			}
		}
	}
	if counts[api.OK] == 0 || counts[api.ErrName] == 0 || counts[api.ErrType] == 0 {
		t.Errorf("too few kinds of small ones: %v", counts)
	}
}

func TestP11CallsSayWhatCheckSays(t *testing.T) {
	for i, s := range spoilt() {
		if w, e := types.Write(s.t); w != "" || e != s.want {
			t.Errorf("Write of %d: %q, %d", i, w, e)
		}
		if n, e := types.Size(s.t); n != 0 || e != s.want {
			t.Errorf("Size of %d: %d, %d", i, n, e)
		}
		if u, e := types.Unfold(s.t); !reflect.DeepEqual(u, api.Type{}) || e != s.want {
			t.Errorf("Unfold of %d: %v, %d", i, u, e)
		}
	}
}

func TestP13Size(t *testing.T) {
	for s, want := range map[string]int{
		"end": 1, "!int.end": 2, "rec t.+{go:!int.t,no:end}": 5, "!{?bool.end}.end": 4, "rec t.rec s.!int.s": 4, "&{a:end,b:end,c:end,d:end,e:end,f:end}": 7, "rec t.!{t}.t": 4,
	} {
		if n, e := types.Size(parsed(t, s)); n != want || e != api.OK {
			t.Errorf("Size(%s) = %d, %d, want %d", s, n, e, want)
		}
	}
	if n, e := types.Size(sends(59, end())); n != 60 || e != api.OK {
		t.Errorf("Size of the largest: %d, %d", n, e)
	}
	for parts := 1; parts <= 5; parts++ {
		for _, x := range small(parts) {
			if n, e := types.Size(x); e == api.OK && n != parts {
				t.Fatalf("Size(%s) = %d, want %d", plain(x), n, parts)
			}
		}
	}
}

func TestP13Unfold(t *testing.T) {
	for s, want := range map[string]string{
		"end":                       "end",
		"!int.end":                  "!int.end",
		"!int.rec t.!int.t":         "!int.rec t.!int.t",
		"rec t.end":                 "end",
		"rec t.rec s.rec t.end":     "end",
		"rec t.!int.t":              "!int.rec t.!int.t",
		"rec t.+{go:!int.t,no:end}": "+{go:!int.rec t.+{go:!int.t,no:end},no:end}",
		"rec t.!{t}.t":              "!{rec t.!{t}.t}.rec t.!{t}.t",
		"rec t.?{!{t}.end}.end":     "?{!{rec t.?{!{t}.end}.end}.end}.end",
		"rec t.rec s.!int.t":        "!int.rec t.rec s.!int.t",
		"rec t.rec s.!int.s":        "!int.rec s.!int.s",
		// Each Var is that of the innermost Rec of its name.
		"rec t.rec t.!int.t":               "!int.rec t.!int.t",
		"rec t.!{rec t.!int.t}.t":          "!{rec t.!int.t}.rec t.!{rec t.!int.t}.t",
		"rec t.?text.rec t.?text.t":        "?text.rec t.?text.t",
		"rec t.&{a:rec s.!{t}.s,b:t}":      "&{a:rec s.!{rec t.&{a:rec s.!{t}.s,b:t}}.s,b:rec t.&{a:rec s.!{t}.s,b:t}}",
		"rec t.rec s.!{t}.s":               "!{rec t.rec s.!{t}.s}.rec s.!{rec t.rec s.!{t}.s}.s",
		"rec t.rec s.+{a:s,b:t}":           "+{a:rec s.+{a:s,b:rec t.rec s.+{a:s,b:t}},b:rec t.rec s.+{a:s,b:t}}",
		"rec t.rec s.rec t.!{s}.t":         "!{rec s.rec t.!{s}.t}.rec t.!{rec s.rec t.!{s}.t}.t",
		"rec tt.!int.rec t.+{a:t,b:tt}":    "!int.rec t.+{a:t,b:rec tt.!int.rec t.+{a:t,b:tt}}",
		"rec a.+{a:!int.a,b:rec b.!int.b}": "+{a:!int.rec a.+{a:!int.a,b:rec b.!int.b},b:rec b.!int.b}",
	} {
		u, e := types.Unfold(parsed(t, s))
		if w, _ := types.Write(u); w != want || e != api.OK {
			t.Errorf("Unfold(%s) = %s, %d, want %s", s, w, e, want)
		}
	}
}

func TestP13UnfoldIsOfSixtyPartsAtMost(t *testing.T) {
	many := func(n int, s string) string { return strings.Repeat(s, n) }
	for s, want := range map[string]int{
		// Of n parts, with one Var: n - 1 + n - 1.
		"rec t." + many(29, "!int.") + "t":                     60,
		"rec t." + many(30, "!int.") + "t":                     0,
		"rec t." + many(58, "!int.") + "end":                   59,
		"rec t." + many(58, "!int.") + "t":                     0,
		many(59, "rec t.") + "end":                             1,
		"rec t.!{t}.!{t}." + many(9, "!int.") + "t":            56,
		"rec t.!{t}.!{t}." + many(10, "!int.") + "t":           60,
		"rec t.!{t}.!{t}." + many(11, "!int.") + "t":           0,
		many(20, "!int.") + "rec t." + many(30, "!int.") + "t": 52,
		// What comes of it is what counts, not what it was on the way.
		"rec t.rec s.rec s." + many(28, "!int.") + "t":         60,
		"rec t.rec s.rec s." + many(29, "!int.") + "t":         0,
		"rec t.rec s." + many(29, "!int.") + "t":               0,
		"rec t." + many(9, "rec s.") + many(24, "!int.") + "t": 59,
		"rec t." + many(9, "rec s.") + many(25, "!int.") + "t": 0,
		"rec t." + many(5, "rec s.") + many(27, "!int.") + "t": 0,
		"rec t." + many(5, "rec s.") + many(26, "!int.") + "t": 59,
		// More than could be held, if it were made.
		"rec a.rec b.rec c.rec d.rec e.rec f.rec g.rec h.rec i.rec j.rec k.rec l.rec m.rec n.rec o.rec p.rec q.rec r.rec s.!{a}.!{b}.!{c}.!{d}.!{e}.!{f}.!{g}.!{h}.!{i}.!{j}.!{k}.!{l}.!{m}.!{n}.!{o}.!{p}.!{q}.!{r}.!{s}.end": 0,
		"rec a.rec b.rec c.rec d.rec e.rec f.rec g.rec h.rec i.rec j.rec k.rec l.!{a}.!{a}.!{b}.!{b}.!{c}.!{c}.!{d}.!{d}.!{e}.!{e}.!{f}.!{f}.!{g}.!{g}.!{h}.!{h}.!{i}.!{i}.!{j}.!{j}.!{k}.!{k}.!{l}.end":                       0,
	} {
		u, e := types.Unfold(parsed(t, s))
		if want == 0 {
			if !reflect.DeepEqual(u, api.Type{}) || e != api.ErrLarge {
				t.Errorf("Unfold(%s): %d, want ErrLarge", s, e)
			}
			continue
		}
		if n, _ := types.Size(u); n != want || e != api.OK {
			t.Errorf("Unfold(%s) has %d parts, %d, want %d", s, n, e, want)
		}
	}
}

// meaning is a type with what its free names mean.
type meaning struct {
	t   api.Type
	env map[string]meaning
}

func with(env map[string]meaning, name string, m meaning) map[string]meaning {
	more := map[string]meaning{}
	for k, v := range env {
		more[k] = v
	}
	more[name] = m
	return more
}

func without(env map[string]meaning, name string) map[string]meaning {
	fewer := with(env, name, meaning{})
	delete(fewer, name)
	return fewer
}

// closed puts in the place of each free name what it means.
func closed(m meaning) api.Type {
	if m.t.Kind == api.Var {
		if of, ok := m.env[m.t.Name]; ok {
			return closed(of)
		}
	}
	env := m.env
	if m.t.Kind == api.Rec {
		env = without(env, m.t.Name)
	}
	out := m.t
	out.Kids = nil
	for _, kid := range m.t.Kids {
		out.Kids = append(out.Kids, closed(meaning{kid, env}))
	}
	return out
}

// unfolded keeps all Recs ahead as meanings, and puts them in at once.
func unfolded(t api.Type) api.Type {
	var env map[string]meaning
	for t.Kind == api.Rec {
		t, env = t.Kids[0], with(env, t.Name, meaning{t, env})
	}
	return closed(meaning{t, env})
}

func TestP13UnfoldOfAllSmallOnes(t *testing.T) {
	for parts := 1; parts <= 6; parts++ {
		for _, x := range small(parts) {
			u, e := types.Unfold(x)
			if types.Check(x) != api.OK {
				continue
			}
			if want := unfolded(x); e != api.OK || plain(u) != plain(want) || u.Kind == api.Rec || types.Check(u) != api.OK {
				t.Fatalf("Unfold(%s) = %s, %d, want %s", plain(x), plain(u), e, plain(want))
			}
		}
	}
}
