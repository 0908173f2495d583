package words_test

import (
	"math"
	"slices"
	"strings"
	"testing"

	"duet/api"
	"duet/pieces"
	"duet/words"
)

func TestSort(t *testing.T) {
	for sort, want := range map[int]string{api.Int: "int", api.Bool: "bool", api.Text: "text", 0: "", 4: "", -1: "", math.MinInt: "", math.MaxInt: ""} {
		if got := words.Sort(sort); got != want {
			t.Errorf("Sort(%d) = %q", sort, got)
		}
	}
}

func TestSign(t *testing.T) {
	for kind, want := range map[int]string{api.Send: "!", api.Give: "!", api.Recv: "?", api.Take: "?", api.Pick: "+", api.Offer: "&", api.End: "", api.Rec: "", api.Var: "", 0: "", 10: "", math.MinInt: "", math.MaxInt: ""} {
		if got := words.Sign(kind); got != want {
			t.Errorf("Sign(%d) = %q", kind, got)
		}
	}
}

func TestReadSort(t *testing.T) {
	for s, want := range map[string]int{"int": api.Int, "bool .": api.Bool, " text)": api.Text, "int5": api.Int, "ints": 0, "in": 0, "": 0, " 5": 0, "Int": 0, "boolint": 0} {
		sort, at := 0, 0
		f := pieces.Read(s, " ", 0, func(r *pieces.Reader) {
			at = r.At()
			sort = words.ReadSort(r)
			at = r.At()
		})
		rest := s[at:]
		if want == 0 && (f != api.Fault{Code: api.ErrSyntax, At: at} || sort != 0) {
			t.Errorf("ReadSort of %q: %d, %v", s, sort, f)
		}
		if want != 0 && (f != api.Fault{} || sort != want || strings.TrimLeft(rest, ".)5") != "") {
			t.Errorf("ReadSort of %q: %d, %v, and %q is left", s, sort, f, rest)
		}
	}
}

func TestLabels(t *testing.T) {
	for labels, want := range map[string]struct{ rise, are bool }{
		"": {true, false}, "a": {true, true}, "a b c d e f": {true, true}, "a b c d e f g": {true, false}, "a aa ab b": {true, true}, "end rec stop": {true, true},
		"b a": {false, false}, "a a": {false, false}, "a c b": {false, false}, "a true": {false, false}, "abcdefghi": {false, false}, "A": {false, false}, "a b c d e f g a": {false, false},
	} {
		list := strings.Fields(labels)
		if rise, are := words.Rise(list), words.AreLabels(list); rise != want.rise || are != want.are {
			t.Errorf("%q: %v, %v", labels, rise, are)
		}
	}
	if words.Rise([]string{""}) || words.AreLabels([]string{""}) {
		t.Error("the empty text is no label")
	}
}

func TestReadLabel(t *testing.T) {
	six := strings.Fields("a b c d e f")
	for _, x := range []struct {
		s     string
		ahead []string
		may   func([]string) bool
		want  string
	}{
		{"a:", nil, words.AreLabels, "a"}, {"g :", six, words.Rise, "g"}, {"f", six[:5], words.AreLabels, "f"},
		{"g", six, words.AreLabels, ""}, {"f", six, words.Rise, ""}, {"e", six, words.Rise, ""}, {"not", nil, words.Rise, ""}, {":", nil, words.Rise, ""}, {"", nil, words.AreLabels, ""},
	} {
		label, room := "", append(slices.Clone(x.ahead), "spare")
		f := pieces.Read(x.s, " ", 0, func(r *pieces.Reader) { label = words.ReadLabel(r, room[:len(x.ahead)], x.may) })
		if label != x.want || (f.Code == api.OK) != (x.want != "") || room[len(x.ahead)] != "spare" {
			t.Errorf("ReadLabel of %q behind %q: %q, %v", x.s, x.ahead, label, f)
		}
	}
}

func TestChoice(t *testing.T) {
	sort := func(out *strings.Builder, sort int) { out.WriteString(words.Sort(sort)) }
	for _, x := range []struct {
		s      string
		labels []string
		kids   []int
	}{
		{"{a:int}", []string{"a"}, []int{api.Int}}, {"{a:text,b:bool,end:int}", []string{"a", "b", "end"}, []int{api.Text, api.Bool, api.Int}},
		{"{a:int,b:int,c:int,d:int,e:int,f:bool}", strings.Fields("a b c d e f"), []int{1, 1, 1, 1, 1, 2}},
	} {
		var out strings.Builder
		words.WriteChoice(&out, x.labels, x.kids, sort)
		if out.String() != x.s {
			t.Errorf("WriteChoice of %q: %s", x.labels, out.String())
		}
		var labels []string
		var kids []int
		f := pieces.Read(" "+strings.ReplaceAll(x.s, ":", " : ")+" ", " ", 0, func(r *pieces.Reader) {
			labels, kids = words.ReadChoice(r, words.ReadSort)
			r.Finish()
		})
		if !slices.Equal(labels, x.labels) || !slices.Equal(kids, x.kids) || f.Code != api.OK {
			t.Errorf("ReadChoice of %q: %q, %d, %v", x.s, labels, kids, f)
		}
	}
	for s, at := range map[string]int{"": 0, "a:int}": 0, "{": 1, "{}": 1, "{a}": 2, "{a:}": 3, "{a:int": 6, "{a:int,": 7, "{a:int,}": 7, "{b:int,a:int}": 7, "{a:int a:int}": 7, "{a:int,b:int,c:int,d:int,e:int,f:int,g:int}": 37} {
		f := pieces.Read(s, " ", 0, func(r *pieces.Reader) { words.ReadChoice(r, words.ReadSort) })
		if want := (api.Fault{Code: api.ErrSyntax, At: at}); f != want {
			t.Errorf("ReadChoice of %q: %v, want %v", s, f, want)
		}
	}
}
