package global_test

import (
	"math/rand"
	"reflect"
	"slices"
	"strings"
	"testing"

	"duet/api"
	"duet/global"
)

func TestP35Write(t *testing.T) {
	e := end()
	for _, x := range []struct {
		g    api.Global
		want string
	}{
		{e, "end"},
		{send("ab", api.Int, e), "a>b:int.end"},
		{send("ba", api.Bool, e), "b>a:bool.end"},
		{send("hc", api.Text, send("ch", api.Int, e)), "h>c:text.c>h:int.end"},
		{pick("ab", "a", e), "a>b{a:end}"},
		{pick("gf", "a b", e, send("ab", api.Int, e)), "g>f{a:end,b:a>b:int.end}"},
		{pick("ab", "a b c d e f", e, e, e, e, e, e), "a>b{a:end,b:end,c:end,d:end,e:end,f:end}"},
		{pick("ab", "end int rec", e, e, e), "a>b{end:end,int:end,rec:end}"},
		{rec("t", send("ab", api.Int, variable("t"))), "rec t.a>b:int.t"},
		{rec("t", rec("s", e)), "rec t.rec s.end"},
		{rec("a", send("ab", api.Int, variable("a"))), "rec a.a>b:int.a"},
		{rec("int", pick("cd", "a b", variable("int"), rec("abcdefgh", send("ab", api.Int, variable("abcdefgh"))))), "rec int.c>d{a:int,b:rec abcdefgh.a>b:int.abcdefgh}"},
	} {
		if s, e := global.Write(x.g); s != x.want || e != api.OK {
			t.Errorf("Write: %q, %d, want %q", s, e, x.want)
		}
	}
}

func TestP35WhatIsWrittenIsReadAsItWas(t *testing.T) {
	for parts := 1; parts <= 6; parts++ {
		for _, x := range small(parts) {
			if global.Check(x) != api.OK {
				continue
			}
			s, e := global.Write(x)
			y, f := global.Parse(s)
			if e != api.OK || f != (api.Fault{}) || plain(y) != plain(x) {
				t.Fatalf("%s is written %q, %d, and read %s, %v", plain(x), s, e, plain(y), f)
			}
		}
	}
	wide := pick("gh", "abcdefgh bcdefghi", end(), end())
	for range 28 {
		wide = pick("gh", "abcdefgh bcdefghi", end(), wide)
	}
	for _, x := range []api.Global{sends(59, end()), recs(59, end()), rec("abcdefgh", sends(58, variable("abcdefgh"))), wide} {
		s, _ := global.Write(x)
		if y, f := global.Parse(s); f != (api.Fault{}) || plain(y) != plain(x) {
			t.Errorf("Parse(%q): %v", s, f)
		}
	}
}

func TestP35ParseTakesBlanks(t *testing.T) {
	for s, want := range map[string]string{
		"end": "end", " end ": "end", "   end": "end", "end   ": "end",
		" a > b : int . end ": "a>b:int.end", "a  >  b  { x  :  end  ,  y  :  b>a:text.end  }  ": "a>b{x:end,y:b>a:text.end}",
		" rec t . a > b { go : b > a : int . t , no : end } ": "rec t.a>b{go:b>a:int.t,no:end}", "rec    t    .   a>b{a   :end}": "rec t.a>b{a:end}",
		"rec a.a>b:int.a": "rec a.a>b:int.a", "rec a . rec b . a > b { a : a , b : b }": "rec a.rec b.a>b{a:a,b:b}", "a>b{end:end,rec:end}": "a>b{end:end,rec:end}", "rec int.a>b:int.int": "rec int.a>b:int.int", "rec ends.a>b:int.ends": "rec ends.a>b:int.ends", "rec recs.a>b:int.recs": "rec recs.a>b:int.recs",
		"a>b{a:end,aa:end,ab:end,b:end,ba:end,bb:end}": "a>b{a:end,aa:end,ab:end,b:end,ba:end,bb:end}", "a>b{abcdefgh:end}": "a>b{abcdefgh:end}", "h>g{a:end}": "h>g{a:end}", "h >a: bool.end": "h>a:bool.end",
	} {
		g, f := global.Parse(s)
		if w, e := global.Write(g); w != want || e != api.OK || f != (api.Fault{}) {
			t.Errorf("Parse(%q): %q, %v, want %q", s, w, f, want)
		}
	}
}

func TestP35ParseTellsWhere(t *testing.T) {
	for s, at := range map[string]int{
		// Where it ends too early.
		"": 0, "   ": 3, "a>": 2, "a > ": 4, "a>b": 3, "a>b ": 4, "a>b:": 4, "a>b: ": 5, "a>b:int": 7, "a>b:int ": 8, "a>b:int.": 8, "a>b{": 4, "a>b{x": 5, "a>b{x:": 6, "a>b{x:end": 9, "a>b{x:end,": 10, "a>b{x:end,y": 11, "rec": 3, "rec ": 4, "rec t": 5, "rec t.": 6, "a>b:int.a>": 10, "a>b:int.a>b": 11,
		// The `>` behind a word that is no role, and roles that can't stand there.
		"x>b:int.end": 1, "i>b:int.end": 1, "z>b:int.end": 1, "x > b:int.end": 2, "ab>c:int.end": 2, "aa>b:int.end": 2, "end>b:int.end": 3, "rec>b:int.end": 3, "rec t.t>b:int.end": 7, "a>b:int.x>b:int.end": 9, "a>b{x:x>b:int.end}": 7, "a>b{x:ab >b:int.end}": 9, "int>a:int.end": 3,
		"a>a:int.end": 2, "a>a{x:end}": 2, "h> h:int.end": 3, "a>i:int.end": 2, "a>x:int.end": 2, "a>bc:int.end": 2, "a>ab:int.end": 2, "a>end:int.end": 2, "a>rec:int.end": 2, "a>B:int.end": 2, "a>1:int.end": 2, "a>:int.end": 2, "a>>b:int.end": 2, "a>{x:end}": 2, "a>b:int.b>b:int.end": 10, "a>b{x:b>a{y:a>a:int.end}}": 14,
		"A>b:int.end": 0, ">b:int.end": 0, "1>b:int.end": 0, "a b:int.end": 2, "a:int.end": 1, "a{x:end}": 1, "a.b": 1, "ab:int.end": 2, "a<b:int.end": 1, "a-b": 1, "a->b:int.end": 1,
		// A word that can be neither a role nor a name of a Rec.
		"true": 0, "not": 0, "abcdefghi": 0, " abcdefghi": 1, "a>b:int.abcdefghi": 8, "a>b:int.or": 8, strings.Repeat("a", 2000): 0, "a>b{x:and}": 6, "true>b:int.end": 0, "abcdefghi>b:int.end": 0,
		// Behind the roles.
		"a>b.end": 3, "a>b end": 4, "a>b>c:int.end": 3, "a>bend": 2, "a>b int.end": 4, "a>b,": 3, "a>b:nat.end": 4, "a>b:ints.end": 4, "a>b:in.end": 4, "a>b: end.end": 5, "a>b:t.end": 4, "a>b:Int.end": 4, "a>b::int.end": 4, "a>b:.end": 4, "a>b:int end": 8, "a>b:int,end": 7, "a>b:int..end": 8, "a>b:{x:end}": 4, "a>b:true.end": 4, "a>b:int:end": 7,
		"a>b{}": 4, "a>b{ }": 5, "a>b{:end}": 4, "a>b{x}": 5, "a>b{x end}": 6, "a>b{x:}": 6, "a>b{x:end y:end}": 10, "a>b{x:end;y:end}": 9, "a>b{x:end,}": 10, "a>b{x:end, }": 11, "a>b{x:end,,y:end}": 10, "a>b{5:end}": 4, "a>b{X:end}": 4, "a>b{x1:end}": 5, "a>b{x::end}": 6, "a>b(x:end)": 3, "a>b{{x:end}}": 4, "a>b{x.end}": 5, "a>b{x:end]": 9,
		"a>b{true:end}": 4, "a>b{a:end,not:end,or:end}": 10, "a>b{and:end}": 4, "a>b{abcdefghi:end}": 4, "a>b{a:end,abcdefghi:end}": 10,
		// Labels that do not rise, and a seventh one.
		"a>b{b:end,a:end}": 10, "a>b{a:end,a:end}": 10, "a>b{a:end, a:end}": 11, "a>b{aa:end,a:end}": 11, "a>b{ab:end,aa:end}": 11, "a>b{a:end,c:end,b:end}": 16, "a>b{a:end,b:end,a:end}": 16, "a>b{a:a>b{b:end},a:end}": 17, "a>b{a:a>b{a:end,a:end}}": 16,
		"a>b{a:end,b:end,c:end,d:end,e:end,f:end,g:end}": 40, "a>b{a:end,b:end,c:end,d:end,e:end,f:end, g:end": 41, "a>b{a:end,b:end,c:end,d:end,e:end,f:end,}": 40, "a>b{a:end,b:end,c:end,d:end,e:end,f:end,a:end}": 40,
		// Behind it all, and signs that stand nowhere.
		"end end": 4, "end.": 3, "end a>b:int.end": 4, "a>b:int.end}": 11, "end,": 3, "end\n": 3, "\nend": 0, "end\t": 3, "end\x00": 3, "endE": 3, "End": 0, "é": 0, "5": 0, "end5": 3, "(end)": 0, "{end}": 0, ".": 0, "}": 0, ":": 0, ",": 0, "!int.end": 0, "?int.end": 0, "+{a:end}": 0, "&{a:end}": 0, "a>b:int.end end": 12, "a\n>b:int.end": 1,
		"rec.end": 3, "rec end.end": 4, "rec rec.end": 4, "rec true.end": 4, "rec t end": 6, "rec t,end": 5, "rec abcdefghi.end": 4, "rec T.end": 4, "rec 5.end": 4, "rec t..end": 6, "rec t.rec": 9, "rec t>b.end": 5, "rec a>b:int.end": 5, "rect.end": 4, "rec t s.end": 6,
		// What can't go on is told ahead of names, and of too many parts.
		"a>b:int.t.": 9, "rec t.t t": 8, strings.Repeat("a>b:int.", 100) + "?": 800, strings.Repeat("a>b:int.", 100): 800, "t t": 2, "t.": 1, "a a": 2,
		strings.Repeat(" ", 2000): 2000, strings.Repeat("a>b{x:", 333): 1998, strings.Repeat("rec t.", 333): 1998, "end" + strings.Repeat(" ", 1996) + "}": 1999,
	} {
		g, f := global.Parse(s)
		if want := (api.Fault{Code: api.ErrSyntax, At: at}); f != want || !reflect.DeepEqual(g, api.Global{}) {
			t.Errorf("Parse(%q): %v, %v, want %v", s, g, f, want)
		}
	}
}

func TestP35ParseTellsWhatCheckSays(t *testing.T) {
	for s, want := range map[string]api.Errno{
		"t": api.ErrName, "  t": api.ErrName, "a": api.ErrName, "recend": api.ErrName, "ende": api.ErrName, "int": api.ErrName, "a>b:int.t": api.ErrName, "a>b:int.a": api.ErrName, "a>b{x:rec t.a>b:int.t,y:t}": api.ErrName, "rec t.a>b:int.s": api.ErrName,
		"rec t.t": api.ErrType, "rec t.rec s.t": api.ErrType, "rec t.s": api.ErrType, "a>b:int. rec t.t": api.ErrType, "a>b{x:t,y:rec t.t}": api.ErrName, "a>b{x:rec t.t,y:t}": api.ErrType, "rec a.a": api.ErrType,
		strings.Repeat("a>b:int.", 60) + "end": api.ErrLarge, strings.Repeat("a>b:int.", 60) + "t": api.ErrLarge, strings.Repeat("a>b:int.", 249) + "end": api.ErrLarge, strings.Repeat("a>b:int.", 59) + "t": api.ErrName,
		strings.Repeat("rec t.", 60) + "end": api.ErrLarge, strings.Repeat("rec t.", 300) + "t": api.ErrType, strings.Repeat("a>b{x:", 250) + "end" + strings.Repeat("}", 250): api.ErrLarge,
		// More than 2000 bytes, whatever they are.
		strings.Repeat(" ", 2001): api.ErrLarge, "end" + strings.Repeat(" ", 1998): api.ErrLarge, strings.Repeat("}", 2001): api.ErrLarge, strings.Repeat("a", 100000): api.ErrLarge, strings.Repeat("a>b{x:", 5000): api.ErrLarge,
	} {
		g, f := global.Parse(s)
		if f != (api.Fault{Code: want}) || !reflect.DeepEqual(g, api.Global{}) {
			t.Errorf("Parse(%.40q): %v, %v, want %d at 0", s, g, f, want)
		}
	}
	if g, f := global.Parse("end" + strings.Repeat(" ", 1997)); f != (api.Fault{}) || g.Kind != api.End {
		t.Errorf("2000 bytes: %v", f)
	}
}

// tokens of which texts are made; the last ones can stand nowhere, or at few places.
var tokens = []string{">", ":", ".", ",", "{", "}", "end", "rec", "a", "b", "x", "int", "text", "true", "abcdefghi", "5", "\n"}

// sharp is a second reader, that knows places alone: todo is what must come, the next one last; "G" is a conversation, "to a" a role but a, "M" what stands behind two roles, "S" a sort, "L" a label, "V" a name of a Rec, "more" what stands behind a label's conversation. It says which token can't stand where it does, or that there are too few (len(read)), or that all is well (-1).
func sharp(read []string) int {
	todo, labels := []string{"G"}, [][]string{}
	for i := 0; ; i++ {
		if len(todo) == 0 && i == len(read) {
			return -1
		}
		if len(todo) == 0 || i == len(read) {
			return i
		}
		next, token := todo[len(todo)-1], read[i]
		todo = todo[:len(todo)-1]
		isRole := token == "a" || token == "b"
		var more []string
		ok := true
		switch {
		case next == "G" && token == "end":
		case next == "G" && token == "rec":
			more = []string{"V", ".", "G"}
		case next == "G" && isRole && i+1 < len(read) && read[i+1] == ">":
			more = []string{">", "to " + token, "M"}
		case next == "G" || next == "V":
			ok = slices.Contains([]string{"a", "b", "x", "int", "text"}, token)
		case strings.HasPrefix(next, "to "):
			ok = isRole && next != "to "+token
		case next == "M" && token == ":":
			more = []string{"S", ".", "G"}
		case next == "M":
			ok, more, labels = token == "{", []string{"L"}, append(labels, nil)
		case next == "S":
			ok = token == "int" || token == "text"
		case next == "L":
			last := &labels[len(labels)-1]
			ok = slices.Contains([]string{"a", "b", "x", "int", "text", "end", "rec"}, token) && len(*last) < 6 && (len(*last) == 0 || (*last)[len(*last)-1] < token)
			*last, more = append(*last, token), []string{":", "G", "more"}
		case next == "more" && token == ",":
			more = []string{"L"}
		case next == "more":
			ok, labels = token == "}", labels[:len(labels)-1]
		default:
			ok = token == next
		}
		if !ok {
			return i
		}
		slices.Reverse(more)
		todo = append(todo, more...)
	}
}

func isWord(token string) bool { return 'a' <= token[0] && token[0] <= 'z' }

// laid writes tokens with that many blanks between them, and at least one between words; starts says where each begins, and where the text ends.
func laid(read []string, blanks func() int) (s string, starts []int) {
	for i, token := range read {
		n := blanks()
		if i > 0 && n == 0 && isWord(token) && isWord(read[i-1]) {
			n = 1
		}
		s += strings.Repeat(" ", n)
		starts = append(starts, len(s))
		s += token
	}
	s += strings.Repeat(" ", blanks())
	return s, append(starts, len(s))
}

// compare holds Parse against what sharp says, and answers whether that is that all is well.
func compare(t *testing.T, read []string, blanks func() int) bool {
	t.Helper()
	s, starts := laid(read, blanks)
	g, f := global.Parse(s)
	wrong := sharp(read)
	switch {
	case wrong >= 0 && (f != api.Fault{Code: api.ErrSyntax, At: starts[wrong]}):
		t.Fatalf("Parse(%q): %v, want ErrSyntax at %d", s, f, starts[wrong])
	case wrong < 0 && (f.At != 0 || f.Code == api.ErrSyntax || f.Code == api.ErrArg):
		t.Fatalf("Parse(%q): %v", s, f)
	case f.Code == api.OK:
		if w, _ := global.Write(g); strings.ReplaceAll(w, " ", "") != strings.Join(read, "") {
			t.Fatalf("Parse(%q) is %q", s, w)
		}
	}
	return wrong < 0
}

func TestP35AllShortTexts(t *testing.T) {
	none := func() int { return 0 }
	well := 0
	var grow func(read []string)
	grow = func(read []string) {
		if compare(t, read, none) {
			well++
		}
		// One token too many tells where it is wrong; more of them tell nothing more.
		if wrong := sharp(read); len(read) < 11 && (wrong < 0 || wrong == len(read)) {
			for _, token := range tokens {
				grow(append(slices.Clip(read), token))
			}
		}
	}
	grow(nil)
	if well < 1000 {
		t.Errorf("too few: %d", well)
	}
}

// anyText is the tokens of a random conversation.
func anyText(dice *rand.Rand, deep int) []string {
	names := []string{"a", "b", "x", "int", "text"}
	if deep == 0 {
		return []string{append(names, "end")[dice.Intn(6)]}
	}
	kid := func() []string { return anyText(dice, deep-1-dice.Intn(deep)) }
	out := [][]string{{"a", ">", "b"}, {"b", ">", "a"}}[dice.Intn(2)]
	switch dice.Intn(3) {
	case 0:
		return append(append(out, ":", names[3+dice.Intn(2)], "."), kid()...)
	case 1:
		return append([]string{"rec", names[dice.Intn(5)], "."}, kid()...)
	}
	between := "{"
	for _, label := range []string{"a", "b", "end", "int", "rec", "text"}[dice.Intn(6):] {
		out = append(append(out, between, label, ":"), kid()...)
		between = ","
	}
	return append(out, "}")
}

func TestP35LongTexts(t *testing.T) {
	dice := rand.New(rand.NewSource(35))
	blanks := func() int { return max(0, dice.Intn(4)-1) }
	well := 0
	for range 20000 {
		read := anyText(dice, 1+dice.Intn(5))
		if len(read) > 300 {
			continue
		}
		if compare(t, read, blanks) {
			well++
		}
		i := dice.Intn(len(read) + 1)
		compare(t, slices.Concat(read[:i], []string{tokens[dice.Intn(len(tokens))]}, read[i:]), blanks)
		if i < len(read) {
			compare(t, slices.Concat(read[:i], []string{tokens[dice.Intn(len(tokens))]}, read[i+1:]), blanks)
			compare(t, slices.Concat(read[:i], read[i+1:]), blanks)
		}
	}
	if well < 10000 {
		t.Errorf("too few: %d", well)
	}
}

func FuzzParse(f *testing.F) {
	for _, s := range []string{"end", " rec t . a > b { go : b > a : int . t , no : end } ", "a>b:int.c>d{a:end,b:a>c:text.end}", "t", "rec a.a", "x>b:int.end", "a>a:int.end"} {
		f.Add(s)
	}
	f.Fuzz(func(t *testing.T, s string) {
		g, fault := global.Parse(s)
		if fault.Code != api.OK {
			if !reflect.DeepEqual(g, api.Global{}) || fault.At < 0 || fault.At > len(s) || fault.Code != api.ErrSyntax && fault.At != 0 {
				t.Fatalf("Parse(%q): %v, %v", s, g, fault)
			}
			return
		}
		w, e := global.Write(g)
		h, again := global.Parse(w)
		if again.Code != api.OK || e != api.OK || plain(g) != plain(h) || strings.ReplaceAll(w, " ", "") != strings.ReplaceAll(s, " ", "") {
			t.Fatalf("Parse(%q): %q, but then %v", s, w, again)
		}
	})
}
