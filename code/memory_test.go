package code_test

import (
	"sync"
	"testing"
	"unsafe"

	"duet/api"
	"duet/code"
)

// counting is a program of many doings, processes and lines.
const counting = "def main() = spawn c:rec t.+{go:!int.t,no:end} () {f(20; c)}; g(0; c)\ndef f(n:int; d:rec t.+{go:!int.t,no:end}) = print n; if n < 1 {pick d no; end d; stop} else {spawn e:end () {print n; print n; print n; end e; stop}; pick d go; end e; send d n; f(n - 1; d)}\ndef g(n:int; e:rec t.&{go:?int.t,no:end}) = case e {go: recv e m; print n + m; g(n + m; e), no: end e; stop}"

// lender of texts over bytes that can still be changed.
type lender struct{ bytes [][]byte }

func (l *lender) lend(s string) string {
	if s == "" {
		return s
	}
	bytes := []byte(s)
	l.bytes = append(l.bytes, bytes)
	return unsafe.String(&bytes[0], len(bytes))
}

func (l *lender) each(list []string) {
	for i, s := range list {
		list[i] = l.lend(s)
	}
}

func (l *lender) exprs(list []api.Expr) {
	for i := range list {
		x := &list[i]
		x.Name, x.Value.S = l.lend(x.Name), l.lend(x.Value.S)
		l.exprs(x.Kids)
	}
}

func (l *lender) procs(list []api.Proc) {
	for i := range list {
		p := &list[i]
		p.Chan, p.Name, p.Label = l.lend(p.Chan), l.lend(p.Name), l.lend(p.Label)
		l.each(p.Names)
		l.each(p.Labels)
		l.exprs(p.Exprs)
		whole := []api.Expr{p.Expr}
		l.exprs(whole)
		p.Expr = whole[0]
		l.procs(p.Kids)
	}
}

func (l *lender) defs(list []api.Def) {
	for i := range list {
		d := &list[i]
		d.Name = l.lend(d.Name)
		l.each(d.Values)
		l.each(d.Chans)
		bodies := []api.Proc{d.Body}
		l.procs(bodies)
		d.Body = bodies[0]
	}
}

// spoil all that was lent.
func (l *lender) spoil() {
	for _, bytes := range l.bytes {
		for i := range bytes {
			bytes[i] = 'q'
		}
	}
}

// spoilProcs empties all lists from within outward.
func spoilProcs(list []api.Proc) {
	for _, p := range list {
		spoilProcs(p.Kids)
		spoilExprs(p.Exprs)
		spoilExprs(p.Expr.Kids)
		clear(p.Names)
		clear(p.Labels)
	}
	clear(list)
}

func spoilExprs(list []api.Expr) {
	for _, x := range list {
		spoilExprs(x.Kids)
	}
	clear(list)
}

// TestP2CodeKeepsCopies: the program is changed behind Compile, its texts and its lists included.
func TestP2CodeKeepsCopies(t *testing.T) {
	for _, x := range []struct {
		s, said string
	}{
		{counting, ""},
		{`def main() = spawn c:+{a:!text.end,b:end} () {pick c a; let t = "x" ++ "y"; send c t; end c; stop}; case c {a: recv c x; print x; end c; f("said", x ++ "z"), b: end c; stop}` + "\ndef f(a:text, b:text) = print a; print b; stop", `0="xy","said","xyz" 0.0=`},
		{"def main() = spawn c:?{!int.end}.end () {take c e; send e 1; end e; end c; stop}; spawn d:?int.end () {recv d x; print x; end d; stop}; spawn e:end (c, d) {give c d; end c; end e; stop}; end e; stop", "0= 0.0= 0.1=1 0.2="},
	} {
		p, l := parsed(t, x.s), &lender{}
		l.defs(p.Defs)
		c, e := code.Compile(p)
		if e != api.OK {
			t.Fatalf("%s: %d", x.s, e)
		}
		before, count, e := c.Run(2, api.MaxFuel)
		if e != api.OK || x.said != "" && told(before) != x.said {
			t.Fatalf("%s: %v, %d", x.s, before, e)
		}
		want, size := told(before), c.Size()
		l.spoil()
		for i := range p.Defs {
			spoilProcs(p.Defs[i].Body.Kids)
			spoilExprs(p.Defs[i].Body.Expr.Kids)
			clear(p.Defs[i].Values)
			clear(p.Defs[i].Chans)
		}
		clear(p.Defs)
		if told(before) != want {
			t.Errorf("%s: %v, then %s", x.s, before, want)
		}
		if after, n, e := c.Run(2, api.MaxFuel); told(after) != want || n != count || e != api.OK || c.Size() != size {
			t.Errorf("%s: %v, %d, %d, want %s, %d", x.s, after, n, e, want, count)
		}
	}
}

// TestP2ListsShareNothing: each list of an answer is filled up to the end of its room, and none sees what was put into another one, nor does the Code.
func TestP2ListsShareNothing(t *testing.T) {
	c := compiled(t, counting)
	said, _, _ := c.Run(3, api.MaxFuel)
	again, _, _ := c.Run(3, api.MaxFuel)
	want := told(said)
	for _, s := range said {
		behind := s.Lines[len(s.Lines):cap(s.Lines)]
		for i := range behind {
			behind[i] = "spare"
		}
	}
	if told(said) != want || len(said) != 22 {
		t.Errorf("%v, then %s", said, want)
	}
	for _, s := range said {
		clear(s.Lines)
	}
	clear(said)
	if told(again) != want {
		t.Errorf("%v, then %s", again, want)
	}
	if last, _, _ := c.Run(3, api.MaxFuel); told(last) != want {
		t.Errorf("%v, then %s", last, want)
	}
}

// TestP2AnswersHangOnNothingElse: a Code is Run again and again, behind runs that were cut off too, while others are compiled of the same program.
func TestP2AnswersHangOnNothingElse(t *testing.T) {
	p := parsed(t, counting)
	c, _ := code.Compile(p)
	said, count, e := c.Run(1, api.MaxFuel)
	if e != api.OK {
		t.Fatal(e)
	}
	var wait sync.WaitGroup
	for g := range 8 {
		wait.Go(func() {
			mine, _ := code.Compile(p)
			for k := range 20 {
				wantError(t, mine, 1+k, count-1-k*g, api.ErrLarge)
				if got, n, e := mine.Run(1+(g+k)%9, count); told(got) != told(said) || n != count || e != api.OK {
					t.Errorf("%v, %d, %d", got, n, e)
				}
			}
		})
	}
	wait.Wait()
}
