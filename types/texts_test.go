package types_test

import (
	"math"
	"math/rand"
	"reflect"
	"slices"
	"strings"
	"testing"

	"duet/api"
	"duet/types"
)

func TestP12Write(t *testing.T) {
	e := end()
	for _, x := range []struct {
		t    api.Type
		want string
	}{
		{e, "end"},
		{send(api.Int, e), "!int.end"},
		{send(api.Bool, e), "!bool.end"},
		{send(api.Text, e), "!text.end"},
		{api.Type{Kind: api.Recv, Sort: api.Text, Kids: []api.Type{e}}, "?text.end"},
		{give(send(api.Int, e), e), "!{!int.end}.end"},
		{api.Type{Kind: api.Take, Kids: []api.Type{e, send(api.Int, e)}}, "?{end}.!int.end"},
		{choice(api.Pick, "a", e), "+{a:end}"},
		{choice(api.Offer, "a b", e, send(api.Int, e)), "&{a:end,b:!int.end}"},
		{choice(api.Pick, "a b c d e f", e, e, e, e, e, e), "+{a:end,b:end,c:end,d:end,e:end,f:end}"},
		{choice(api.Offer, "end int rec", e, e, e), "&{end:end,int:end,rec:end}"},
		{rec("t", send(api.Int, variable("t"))), "rec t.!int.t"},
		{rec("t", rec("s", e)), "rec t.rec s.end"},
		{rec("t", give(variable("t"), variable("t"))), "rec t.!{t}.t"},
		{rec("int", choice(api.Pick, "a b", variable("int"), rec("abcdefgh", send(api.Int, variable("abcdefgh"))))), "rec int.+{a:int,b:rec abcdefgh.!int.abcdefgh}"},
	} {
		if s, e := types.Write(x.t); s != x.want || e != api.OK {
			t.Errorf("Write: %q, %d, want %q", s, e, x.want)
		}
	}
}

func TestP12WhatIsWrittenIsReadAsItWas(t *testing.T) {
	for parts := 1; parts <= 6; parts++ {
		for _, x := range small(parts) {
			if types.Check(x) != api.OK {
				continue
			}
			s, e := types.Write(x)
			y, f := types.Parse(s)
			if e != api.OK || f != (api.Fault{}) || plain(y) != plain(x) {
				t.Fatalf("%s is written %q, %d, and read %s, %v", plain(x), s, e, plain(y), f)
			}
			z, end, f := types.Begin("rec. "+s+"  }", 4)
			if f != (api.Fault{}) || plain(z) != plain(x) || end != len(s)+7 {
				t.Fatalf("Begin of %q: %s, %d, %v", s, plain(z), end, f)
			}
		}
	}
	for _, x := range []api.Type{sends(59, end()), recs(59, end()), rec("abcdefgh", sends(58, variable("abcdefgh")))} {
		s, _ := types.Write(x)
		if y, f := types.Parse(s); f != (api.Fault{}) || plain(y) != plain(x) {
			t.Errorf("Parse(%q): %v", s, f)
		}
	}
}

func TestP12ParseTakesBlanks(t *testing.T) {
	for s, want := range map[string]string{
		"end": "end", " end ": "end", "   end": "end", "end   ": "end",
		" ! int . end ": "!int.end", " ? { ! int . end } . ? bool . end ": "?{!int.end}.?bool.end",
		" rec t . + { go : ! int . t , no : end } ": "rec t.+{go:!int.t,no:end}", "rec    t    .   &{a   :end}": "rec t.&{a:end}",
		"rec t.!{t}.t": "rec t.!{t}.t", "+{end:end,rec:end}": "+{end:end,rec:end}", "rec int.!int.int": "rec int.!int.int", "rec ends.!int.ends": "rec ends.!int.ends", "rec recs.!int.recs": "rec recs.!int.recs",
		"+{a:end,aa:end,ab:end,b:end,ba:end,bb:end}": "+{a:end,aa:end,ab:end,b:end,ba:end,bb:end}", "+{abcdefgh:end}": "+{abcdefgh:end}",
	} {
		x, f := types.Parse(s)
		if w, e := types.Write(x); w != want || e != api.OK || f != (api.Fault{}) {
			t.Errorf("Parse(%q): %q, %v, want %q", s, w, f, want)
		}
	}
}

func TestP12ParseTellsWhere(t *testing.T) {
	for s, at := range map[string]int{
		"": 0, "   ": 3, "!": 1, "! ": 2, "!int": 4, "!int ": 5, "!int.": 5, "!int. ": 6, "!{": 2, "!{end": 5, "!{end}": 6, "!{end}.": 7, "+": 1, "+{": 2, "+{a": 3, "+{a:": 4, "+{a:end": 7, "+{a:end,": 8, "+{a:end,b": 9, "rec": 3, "rec ": 4, "rec t": 5, "rec t.": 6,
		"end end": 4, "end.": 3, "end !int.end": 4, "!int.end}": 8, "end,": 3, "end\n": 3, "\nend": 0, "end\t": 3, "end\x00": 3, "endE": 3, "End": 0, "é": 0, "5": 0, "end5": 3, "(end)": 0, "{end}": 0, ".": 0, "}": 0, ":": 0, ",": 0,
		"!nat.end": 1, "!ints.end": 1, "!in.end": 1, "! end.end": 2, "!t.end": 1, "!Int.end": 1, "!!int.end": 1, "!.end": 1, "!int end": 5, "!int,end": 4, "!int..end": 5, "!{}.end": 2, "!{end.end": 5, "!{end]": 5, "!{end}end": 6, "!{end} end": 7, "?{int}.end end": 11, "!end": 1,
		"!true.end": 1, "!(int).end": 1, "!5.end": 1, "? int , end": 6,
		"+a:end": 1, "+{}": 2, "+{ }": 3, "+{:end}": 2, "+{a}": 3, "+{a end}": 4, "+{a:}": 4, "+{a:end b:end}": 8, "+{a:end;b:end}": 7, "+{a:end,}": 8, "+{a:end, }": 9, "+{a:end,,b:end}": 8, "+{5:end}": 2, "+{A:end}": 2, "+{a1:end}": 3, "&{a::end}": 4, "&(a:end)": 1, "+ + {a:end}": 2,
		"+{true:end}": 2, "+{a:end,not:end,or:end}": 8, "+{and:end}": 2, "+{abcdefghi:end}": 2, "+{a:end,abcdefghi:end}": 8,
		"+{b:end,a:end}": 8, "+{a:end,a:end}": 8, "+{a:end, a:end}": 9, "+{aa:end,a:end}": 9, "+{ab:end,aa:end}": 9, "+{a:end,c:end,b:end}": 14, "+{a:end,b:end,a:end}": 14, "+{a:+{b:end},a:end}": 13, "+{a:+{a:end,a:end}}": 12,
		"+{a:end,b:end,c:end,d:end,e:end,f:end,g:end}": 38, "&{a:end,b:end,c:end,d:end,e:end,f:end, g:end": 39, "&{a:end,b:end,c:end,d:end,e:end,f:end,}": 38, "+{a:end,b:end,c:end,d:end,e:end,f:end,a:end}": 38,
		"rec.end": 3, "rec end.end": 4, "rec rec.end": 4, "rec true.end": 4, "rec t end": 6, "rec t,end": 5, "rec abcdefghi.end": 4, "rec T.end": 4, "rec 5.end": 4, "rec t..end": 6, "rec t.rec": 9, "rec !int.end": 4, "rec t.!int.rec": 14, "rect.end": 4, "rec t s.end": 6,
		"true": 0, "not": 0, "abcdefghi": 0, " abcdefghi": 1, "!int.abcdefghi": 5, "!int.or": 5, strings.Repeat("a", 2000): 0, "!{and}.end": 2,
		// What can't go on is told ahead of names, and of too many parts.
		"!{t}.": 5, "rec t.t t": 8, strings.Repeat("!int.", 100) + "?": 501, strings.Repeat("!int.", 100): 500, "t t": 2, "t.": 1,
		strings.Repeat(" ", 2000): 2000, strings.Repeat("!{", 1000): 2000, strings.Repeat("rec t.", 333): 1998, "end" + strings.Repeat(" ", 1996) + "}": 1999,
	} {
		x, f := types.Parse(s)
		if want := (api.Fault{Code: api.ErrSyntax, At: at}); f != want || !reflect.DeepEqual(x, api.Type{}) {
			t.Errorf("Parse(%q): %v, %v, want %v", s, x, f, want)
		}
	}
}

func TestP12ParseTellsWhatCheckSays(t *testing.T) {
	for s, want := range map[string]api.Errno{
		"t": api.ErrName, "  t": api.ErrName, "recend": api.ErrName, "ende": api.ErrName, "int": api.ErrName, "!int.t": api.ErrName, "!{rec t.!int.t}.t": api.ErrName, "rec t.!int.s": api.ErrName,
		"rec t.t": api.ErrType, "rec t.rec s.t": api.ErrType, "rec t.s": api.ErrType, "!int. rec t.t": api.ErrType, "!{t}.rec t.t": api.ErrName, "!{rec t.t}.t": api.ErrType,
		strings.Repeat("!int.", 60) + "end": api.ErrLarge, strings.Repeat("!int.", 60) + "t": api.ErrLarge, strings.Repeat("!int.", 399) + "end": api.ErrLarge, strings.Repeat("!int.", 59) + "t": api.ErrName,
		strings.Repeat("rec t.", 60) + "end": api.ErrLarge, strings.Repeat("rec t.", 300) + "t": api.ErrType, strings.Repeat("!{", 400) + "end" + strings.Repeat("}.t", 400): api.ErrLarge,
		// More than 2000 bytes, whatever they are.
		strings.Repeat(" ", 2001): api.ErrLarge, "end" + strings.Repeat(" ", 1998): api.ErrLarge, strings.Repeat("}", 2001): api.ErrLarge, strings.Repeat("a", 100000): api.ErrLarge, strings.Repeat("!{", 5000): api.ErrLarge,
	} {
		x, f := types.Parse(s)
		if f != (api.Fault{Code: want}) || !reflect.DeepEqual(x, api.Type{}) {
			t.Errorf("Parse(%.40q): %v, %v, want %d at 0", s, x, f, want)
		}
		if x, end, g := types.Begin(s, 0); g != f || end != 0 || !reflect.DeepEqual(x, api.Type{}) {
			t.Errorf("Begin(%.40q): %v, %d, %v, want %v", s, x, end, g, f)
		}
	}
	if x, f := types.Parse("end" + strings.Repeat(" ", 1997)); f != (api.Fault{}) || x.Kind != api.End {
		t.Errorf("2000 bytes: %v", f)
	}
}

func TestP12Begin(t *testing.T) {
	for _, x := range []struct {
		s    string
		at   int
		want string
		end  int
	}{
		{"end", 0, "end", 3}, {"end", -1, "end", 3}, {"end", math.MinInt, "end", 3}, {"  end  ", 0, "end", 7}, {"  end  }", 0, "end", 7}, {"  end  }", 2, "end", 7}, {"end end", 0, "end", 4}, {"end.end", 0, "end", 3}, {"end\nend", 0, "end", 3}, {"endX", 0, "end", 3},
		{"c:!int.end ()", 2, "!int.end", 11}, {"c: !int.end()", 2, "!int.end", 11}, {"!{?int.end}.end", 2, "?int.end", 10}, {"+{a:end,b:end}", 4, "end", 7}, {"!int.end\x00\xff", 0, "!int.end", 8}, {"!int.end )", -5, "!int.end", 9},
		{"bend", 1, "end", 4}, {"+{a:end}}", 0, "+{a:end}", 8}, {"rec t.!int.t.t", 0, "rec t.!int.t", 12}, {"xx rec t.&{a:t} , b", 2, "rec t.&{a:t}", 16},
	} {
		y, end, f := types.Begin(x.s, x.at)
		if w, _ := types.Write(y); w != x.want || end != x.end || f != (api.Fault{}) {
			t.Errorf("Begin(%q, %d): %q, %d, %v, want %q, %d", x.s, x.at, w, end, f, x.want, x.end)
		}
	}
}

func TestP12BeginTellsWhere(t *testing.T) {
	for _, x := range []struct {
		s    string
		at   int
		want api.Fault
	}{
		{"", 0, api.Fault{Code: api.ErrSyntax, At: 0}}, {"", 5, api.Fault{Code: api.ErrSyntax, At: 0}}, {"end", 3, api.Fault{Code: api.ErrSyntax, At: 3}}, {"end", 4, api.Fault{Code: api.ErrSyntax, At: 3}}, {"end", math.MaxInt, api.Fault{Code: api.ErrSyntax, At: 3}}, {"end  ", 3, api.Fault{Code: api.ErrSyntax, At: 5}},
		{"end !int", 3, api.Fault{Code: api.ErrSyntax, At: 8}}, {"end }", 3, api.Fault{Code: api.ErrSyntax, At: 4}}, {"xx +{b:end,a:end}", 2, api.Fault{Code: api.ErrSyntax, At: 11}}, {"!int;end", 0, api.Fault{Code: api.ErrSyntax, At: 4}}, {"abcdefghi", 0, api.Fault{Code: api.ErrSyntax, At: 0}}, {"!nat.end", 0, api.Fault{Code: api.ErrSyntax, At: 1}},
		{"!int.end", 1, api.Fault{Code: api.ErrName}}, {"abcdefghi", 1, api.Fault{Code: api.ErrName}}, {"xx t )", 2, api.Fault{Code: api.ErrName}}, {"xx rec t.t", 2, api.Fault{Code: api.ErrType}}, {"xx " + strings.Repeat("!int.", 60) + "end end", 3, api.Fault{Code: api.ErrLarge}},
		{"end" + strings.Repeat("x", 1998), 1, api.Fault{Code: api.ErrLarge}}, {strings.Repeat(" ", 1998) + "end", 1998, api.Fault{Code: api.ErrLarge}},
	} {
		y, end, f := types.Begin(x.s, x.at)
		if f != x.want || end != 0 || !reflect.DeepEqual(y, api.Type{}) {
			t.Errorf("Begin(%.40q, %d): %v, %d, %v, want %v", x.s, x.at, y, end, f, x.want)
		}
	}
}

// tokens of which texts are made; the last ones can stand nowhere, or at few places.
var tokens = []string{"!", "?", "+", "&", "{", "}", ".", ":", ",", "end", "rec", "a", "b", "int", "text", "true", "abcdefghi", "5", "\n"}

// sharp is a second reader, that knows places alone: todo is what must come, the next one last; "T" is a type, "M" what stands behind ! or ?, "L" a label, "V" a name of a Rec, "more" what stands behind a label's type. It says which token can't stand where it does, or that there are too few (len(read)), or that all is well (-1). Where begun is set it stops when it has a type, and says how many tokens it took.
func sharp(read []string, begun bool) (wrong, took int) {
	todo, labels := []string{"T"}, [][]string{}
	for i := 0; ; i++ {
		if len(todo) == 0 && (begun || i == len(read)) {
			return -1, i
		}
		if len(todo) == 0 || i == len(read) {
			return i, 0
		}
		next, token := todo[len(todo)-1], read[i]
		todo = todo[:len(todo)-1]
		var more []string
		ok := true
		switch {
		case next == "T" && (token == "!" || token == "?"):
			more = []string{"M"}
		case next == "T" && (token == "+" || token == "&"):
			more, labels = []string{"{", "L"}, append(labels, nil)
		case next == "T" && token == "rec":
			more = []string{"V", ".", "T"}
		case next == "T" && token == "end":
		case next == "T" || next == "V":
			ok = slices.Contains([]string{"a", "b", "int", "text"}, token)
		case next == "M" && token == "{":
			more = []string{"T", "}", ".", "T"}
		case next == "M":
			ok, more = token == "int" || token == "text", []string{".", "T"}
		case next == "L":
			last := &labels[len(labels)-1]
			ok = slices.Contains([]string{"a", "b", "int", "text", "end", "rec"}, token) && len(*last) < 6 && (len(*last) == 0 || (*last)[len(*last)-1] < token)
			*last, more = append(*last, token), []string{":", "T", "more"}
		case next == "more" && token == ",":
			more = []string{"L"}
		case next == "more":
			ok, labels = token == "}", labels[:len(labels)-1]
		default:
			ok = token == next
		}
		if !ok {
			return i, 0
		}
		slices.Reverse(more)
		todo = append(todo, more...)
	}
}

// laid writes tokens with that many blanks between them, and at least one between words; starts says where each begins, and where the text ends.
func laid(read []string, blanks func() int) (s string, starts []int) {
	isWord := func(token string) bool { return token[0] >= 'a' }
	for i, token := range read {
		n := blanks()
		if i > 0 && n == 0 && isWord(token) && token != "{" && token != "}" && isWord(read[i-1]) && read[i-1] != "{" && read[i-1] != "}" {
			n = 1
		}
		s += strings.Repeat(" ", n)
		starts = append(starts, len(s))
		s += token
	}
	s += strings.Repeat(" ", blanks())
	return s, append(starts, len(s))
}

// compare holds Parse and Begin against what sharp says.
func compare(t *testing.T, read []string, blanks func() int) {
	t.Helper()
	s, starts := laid(read, blanks)
	x, f := types.Parse(s)
	wrong, _ := sharp(read, false)
	switch {
	case wrong >= 0 && (f != api.Fault{Code: api.ErrSyntax, At: starts[wrong]}):
		t.Fatalf("Parse(%q): %v, want ErrSyntax at %d", s, f, starts[wrong])
	case wrong < 0 && (f.At != 0 || f.Code == api.ErrSyntax || f.Code == api.ErrArg):
		t.Fatalf("Parse(%q): %v", s, f)
	case f.Code == api.OK:
		if w, _ := types.Write(x); strings.ReplaceAll(w, " ", "") != strings.Join(read, "") {
			t.Fatalf("Parse(%q) is %q", s, w)
		}
	}
	_, end, f := types.Begin(s, 0)
	wrong, took := sharp(read, true)
	switch {
	case wrong >= 0 && (f != api.Fault{Code: api.ErrSyntax, At: starts[wrong]} || end != 0):
		t.Fatalf("Begin(%q): %d, %v, want ErrSyntax at %d", s, end, f, starts[wrong])
	case wrong < 0 && f.Code == api.OK && end != starts[took]:
		t.Fatalf("Begin(%q): %d, want %d", s, end, starts[took])
	case wrong < 0 && f.Code != api.OK && (f.At != 0 || end != 0):
		t.Fatalf("Begin(%q): %d, %v", s, end, f)
	}
}

func TestP12AllShortTexts(t *testing.T) {
	none := func() int { return 0 }
	var grow func(read []string)
	grow = func(read []string) {
		compare(t, read, none)
		// One token too many tells where it is wrong; more of them tell nothing more.
		if wrong, _ := sharp(read, false); len(read) < 9 && (wrong < 0 || wrong == len(read)) {
			for _, token := range tokens {
				grow(append(slices.Clip(read), token))
			}
		}
	}
	grow(nil)
}

// anyText is the tokens of a random type.
func anyText(dice *rand.Rand, deep int) []string {
	names := []string{"a", "b", "int", "text"}
	if deep == 0 {
		return []string{append(names, "end")[dice.Intn(5)]}
	}
	kid := func() []string { return anyText(dice, deep-1-dice.Intn(deep)) }
	sign := []string{"!", "?"}[dice.Intn(2)]
	switch dice.Intn(4) {
	case 0:
		return append([]string{sign, names[2+dice.Intn(2)], "."}, kid()...)
	case 1:
		return append(append(append([]string{sign, "{"}, kid()...), "}", "."), kid()...)
	case 2:
		return append([]string{"rec", names[dice.Intn(4)], "."}, kid()...)
	}
	out := []string{[]string{"+", "&"}[dice.Intn(2)], "{"}
	for i, label := range []string{"a", "b", "end", "int", "rec", "text"}[dice.Intn(6):] {
		if i > 0 {
			out = append(out, ",")
		}
		out = append(append(out, label, ":"), kid()...)
	}
	return append(out, "}")
}

func TestP12LongTexts(t *testing.T) {
	dice := rand.New(rand.NewSource(12))
	blanks := func() int { return max(0, dice.Intn(4)-1) }
	for range 20000 {
		read := anyText(dice, 1+dice.Intn(5))
		if len(read) > 300 {
			continue
		}
		compare(t, read, blanks)
		i := dice.Intn(len(read) + 1)
		compare(t, slices.Concat(read[:i], []string{tokens[dice.Intn(len(tokens))]}, read[i:]), blanks)
		if i < len(read) {
			compare(t, slices.Concat(read[:i], []string{tokens[dice.Intn(len(tokens))]}, read[i+1:]), blanks)
			compare(t, slices.Concat(read[:i], read[i+1:]), blanks)
		}
	}
}

func FuzzBegin(f *testing.F) {
	for _, s := range []string{"end", " rec t . + { go : ! int . t , no : end } ", "!{?bool.end}.&{a:end,b:!text.end}", "t", "rec t.t", "end end"} {
		f.Add(s, 0)
	}
	f.Fuzz(func(t *testing.T, s string, at int) {
		x, end, fault := types.Begin(s, at)
		if fault.Code != api.OK {
			if end != 0 || !reflect.DeepEqual(x, api.Type{}) || fault.At < 0 || fault.At > len(s) {
				t.Fatalf("Begin(%q, %d): %v, %d, %v", s, at, x, end, fault)
			}
			return
		}
		from := min(max(at, 0), len(s))
		y, again := types.Parse(s[from:end])
		w, e := types.Write(x)
		if again.Code != api.OK || e != api.OK || plain(x) != plain(y) || strings.ReplaceAll(w, " ", "") != strings.ReplaceAll(s[from:end], " ", "") {
			t.Fatalf("Begin(%q, %d): %q, %d, but Parse says %v", s, at, w, end, again)
		}
	})
}
