package parts_test

import (
	"slices"
	"strings"
	"testing"

	"duet/api"
	"duet/parts"
)

// thing is written as a word, `rec:` and `var:` ahead of a name; one called `bad` has not what its kind has.
type thing struct {
	word string
	kids []thing
}

func made(word string, kids ...thing) thing { return thing{word, kids} }

func isPart(t thing) bool {
	kind, _, kids := look(t)
	return t.word != "bad" && (kind != api.Rec || len(kids) == 1)
}

func look(t thing) (kind int, name string, kids []thing) {
	if name, is := strings.CutPrefix(t.word, "rec:"); is {
		return api.Rec, name, t.kids
	}
	if name, is := strings.CutPrefix(t.word, "var:"); is {
		return api.Var, name, t.kids
	}
	return api.Pick, "", t.kids
}

// row is so many of a word, each the only Kid of the one ahead.
func row(count int, word string, last thing) thing {
	for range count {
		last = made(word, last)
	}
	return last
}

func endless(t thing) thing {
	t.kids = slices.Clone(t.kids)
	t.kids[len(t.kids)-1] = t
	return t
}

func TestCheck(t *testing.T) {
	leaf, bad, free, idle := made("leaf"), made("bad"), made("var:x"), made("rec:t", made("var:t"))
	for i, x := range []struct {
		t    thing
		want api.Errno
	}{
		{leaf, api.OK}, {bad, api.ErrArg}, {free, api.ErrName}, {idle, api.ErrType}, {made("rec:t", leaf), api.OK}, {made("rec:x", made("one", free)), api.OK}, {made("rec:x", free), api.ErrType}, {made("rec:y", made("one", free)), api.ErrName},
		{made("two", leaf, bad), api.ErrArg}, {made("two", free, bad), api.ErrName}, {made("two", idle, free), api.ErrType}, {made("two", bad, idle), api.ErrArg}, {made("two", made("one", bad), idle), api.ErrArg}, {made("bad", idle), api.ErrArg},
		{made("two", made("rec:x", made("one", free)), free), api.ErrName}, {made("rec:x", made("two", made("rec:y", made("one", free)), free)), api.OK}, {made("rec:x", made("two", made("rec:y", made("one", made("var:y"))), made("var:y"))), api.ErrName},
		// Behind a Rec that has not just one body there is no Var.
		{made("rec:t", made("rec:s")), api.ErrArg}, {made("rec:t", made("rec:s", made("var:t"), made("var:t"))), api.ErrArg}, {made("rec:t"), api.ErrArg}, {made("rec:t", bad), api.ErrArg}, {made("rec:t", made("rec:s", made("var:s"))), api.ErrType},
		{row(59, "one", leaf), api.OK}, {row(60, "one", leaf), api.ErrLarge}, {row(60, "one", bad), api.ErrLarge}, {row(59, "one", bad), api.ErrArg}, {row(59, "rec:t", leaf), api.OK}, {row(60, "rec:t", leaf), api.ErrLarge}, {row(1000, "rec:t", free), api.ErrType},
		{made("two", row(57, "one", leaf), leaf), api.OK}, {made("two", row(58, "one", leaf), leaf), api.ErrLarge}, {made("two", bad, row(60, "one", leaf)), api.ErrArg},
		{endless(made("one", leaf)), api.ErrLarge}, {endless(made("rec:t", leaf)), api.ErrLarge},
	} {
		if e := parts.Check(x.t, isPart, look); e != x.want {
			t.Errorf("%d: %d, want %d", i, e, x.want)
		}
	}
}
