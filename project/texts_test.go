package project_test

import (
	"strings"
	"testing"

	"duet/api"
	"duet/project"
)

// reader of what is written: no blanks, and nothing wrong in it.
type reader struct{ rest string }

func (r *reader) take(size int) string {
	s := r.rest[:size]
	r.rest = r.rest[size:]
	return s
}

// upTo is what stands ahead of the first of these signs, which is passed too.
func (r *reader) upTo(signs string) string {
	s := r.take(strings.IndexAny(r.rest, signs))
	r.take(1)
	return s
}

func (r *reader) word() string {
	return r.take(len(r.rest) - len(strings.TrimLeft(r.rest, "abcdefghijklmnopqrstuvwxyz")))
}

func (r *reader) local() api.Local {
	word := r.word()
	switch {
	case word == "end":
		return end()
	case word == "rec":
		r.take(1)
		return rec(r.upTo("."), r.local())
	case r.rest == "" || !strings.Contains("!?+&", r.rest[:1]):
		return variable(word)
	}
	sign := r.take(1)
	kind := map[string]int{"!": api.Send, "?": api.Recv, "+": api.Pick, "&": api.Offer}[sign]
	if kind == api.Send || kind == api.Recv {
		sort := map[string]int{"int": api.Int, "bool": api.Bool, "text": api.Text}[r.upTo(".")]
		return api.Local{Kind: kind, With: word, Sort: sort, Kids: []api.Local{r.local()}}
	}
	l := api.Local{Kind: kind, With: word}
	for r.take(1) != "}" {
		l.Labels = append(l.Labels, r.upTo(":"))
		l.Kids = append(l.Kids, r.local())
	}
	return l
}

// made is for tests: what a text that is right says.
func made(t *testing.T, s string) api.Local {
	t.Helper()
	r := &reader{s}
	l := r.local()
	if w, e := project.Write(l); w != s || e != api.OK || r.rest != "" {
		t.Fatalf("%q is made %q, %d", s, w, e)
	}
	return l
}

func TestP37Write(t *testing.T) {
	e := end()
	for _, x := range []struct {
		l    api.Local
		want string
	}{
		{e, "end"},
		{send("b", api.Int, e), "b!int.end"},
		{recv("b", api.Bool, e), "b?bool.end"},
		{recv("h", api.Text, send("c", api.Int, e)), "h?text.c!int.end"},
		{choice(api.Pick, "b", "a", e), "b+{a:end}"},
		{choice(api.Offer, "b", "a", e), "b&{a:end}"},
		{choice(api.Pick, "g", "a b", e, send("a", api.Int, e)), "g+{a:end,b:a!int.end}"},
		{choice(api.Offer, "g", "a b", choice(api.Pick, "a", "c d", e, e), e), "g&{a:a+{c:end,d:end},b:end}"},
		{choice(api.Offer, "a", "a b c d e f", e, e, e, e, e, e), "a&{a:end,b:end,c:end,d:end,e:end,f:end}"},
		{choice(api.Pick, "b", "end int rec", e, e, e), "b+{end:end,int:end,rec:end}"},
		{rec("t", send("b", api.Int, variable("t"))), "rec t.b!int.t"},
		{rec("t", rec("s", e)), "rec t.rec s.end"},
		{rec("a", send("a", api.Int, variable("a"))), "rec a.a!int.a"},
		{rec("int", choice(api.Offer, "c", "a b", variable("int"), rec("abcdefgh", recv("b", api.Int, variable("abcdefgh"))))), "rec int.c&{a:int,b:rec abcdefgh.b?int.abcdefgh}"},
	} {
		if s, e := project.Write(x.l); s != x.want || e != api.OK {
			t.Errorf("Write: %q, %d, want %q", s, e, x.want)
		}
	}
}

func TestP37WhatIsWrittenTellsItAll(t *testing.T) {
	list := append(right(5), sends(59, end()), recs(59, end()), rec("abcdefgh", sends(58, variable("abcdefgh"))))
	for _, l := range list {
		s, e := project.Write(l)
		r := &reader{s}
		if e != api.OK || plain(r.local()) != plain(l) || r.rest != "" {
			t.Fatalf("%s is written %q, %d", plain(l), s, e)
		}
	}
}
