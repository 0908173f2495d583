package pieces_test

import (
	"strings"
	"testing"

	"duet/api"
	"duet/pieces"
)

func TestLeading(t *testing.T) {
	for _, x := range []struct{ s, of, want string }{
		{"", pieces.Letters, ""}, {"abc", pieces.Letters, "abc"}, {"abc1d", pieces.Letters, "abc"}, {"az`{", pieces.Letters, "az"}, {"1a", pieces.Letters, ""}, {"aé", pieces.Letters, "a"}, {"a\xff", pieces.Letters, "a"},
		{"0190:", pieces.Digits, "0190"}, {"/1", pieces.Digits, ""}, {"  \n a", " ", "  "}, {"  \n a", " \n", "  \n "}, {"a", "", ""},
	} {
		if got := pieces.Leading(x.s, x.of); got != x.want {
			t.Errorf("Leading(%q, %q) = %q", x.s, x.of, got)
		}
	}
}

func TestReadBeginsBehindBlanks(t *testing.T) {
	for _, x := range []struct {
		text, blanks string
		at, want     int
	}{
		{"", " ", 0, 0}, {"a", " ", -1, 0}, {"a", " ", 9, 1}, {"  a", " ", 0, 2}, {"  a", " ", 1, 2}, {" \n a", " ", 0, 1}, {" \n a", " \n", 0, 3}, {"   ", " ", 1, 3},
	} {
		f := pieces.Read(x.text, x.blanks, x.at, func(r *pieces.Reader) {
			if r.At() != x.want || r.Rest() != x.text[x.want:] {
				t.Errorf("Read(%q, %d) begins at %d", x.text, x.at, r.At())
			}
		})
		if f != (api.Fault{}) {
			t.Errorf("Read(%q): %v", x.text, f)
		}
	}
}

func TestReadOfTooLongTexts(t *testing.T) {
	for size, want := range map[int]api.Errno{api.MaxSource: api.OK, api.MaxSource + 1: api.ErrLarge} {
		began := false
		f := pieces.Read(strings.Repeat("a", size), " ", 1, func(*pieces.Reader) { began = true })
		if f != (api.Fault{Code: want}) || began != (want == api.OK) {
			t.Errorf("%d bytes: %v, %v", size, f, began)
		}
	}
}

func TestReadCatchesWhatIsThrown(t *testing.T) {
	is := func(want string) func(string) bool { return func(word string) bool { return word == want } }
	for _, x := range []struct {
		text    string
		reading func(*pieces.Reader)
		want    api.Fault
	}{
		{"ab : cd", func(r *pieces.Reader) { r.Pass(len(r.Word())); r.Need(":"); r.Pass(len(r.Word())); r.Finish() }, api.Fault{}},
		{"ab , cd", func(r *pieces.Reader) { r.Pass(len(r.Word())); r.Need(":") }, api.Fault{Code: api.ErrSyntax, At: 3}},
		{"ab ", func(r *pieces.Reader) { r.Pass(len(r.Word())); r.Need(":") }, api.Fault{Code: api.ErrSyntax, At: 3}},
		{"ab cd", func(r *pieces.Reader) { r.Pass(len(r.Word())); r.Finish() }, api.Fault{Code: api.ErrSyntax, At: 3}},
		{" ab", func(r *pieces.Reader) { panic(r.Fault(api.ErrLarge)) }, api.Fault{Code: api.ErrLarge, At: 1}},
		{" ab cd", func(r *pieces.Reader) {
			if r.Text() != " ab cd" || r.Take(is("ab")) != "ab" || r.At() != 4 || r.Take(is("cd")) != "cd" || r.Text() != " ab cd" {
				t.Error("Take")
			}
		}, api.Fault{}},
		{"ab cd", func(r *pieces.Reader) { r.Take(is("ab")); r.Take(is("c")) }, api.Fault{Code: api.ErrSyntax, At: 3}},
		{"ab :", func(r *pieces.Reader) { r.Take(is("ab")); r.Take(is(":")) }, api.Fault{Code: api.ErrSyntax, At: 3}},
		{"abc", func(r *pieces.Reader) { r.Take(is("ab")) }, api.Fault{Code: api.ErrSyntax, At: 0}},
		{" ++ +", func(r *pieces.Reader) {
			if r.Skip("-") || !r.Skip("+") || !r.Skip("+") || r.At() != 4 || !r.Skip("+") || r.Skip("+") || r.Word() != "" {
				t.Error("Skip")
			}
		}, api.Fault{}},
	} {
		if f := pieces.Read(x.text, " ", 0, x.reading); f != x.want {
			t.Errorf("Read(%q): %v, want %v", x.text, f, x.want)
		}
	}
}

func TestCaught(t *testing.T) {
	want, came := api.Fault{Code: api.ErrName, At: 7}, false
	f := pieces.Caught(func() {
		func() { panic(want) }()
		came = true
	})
	if f != want || came {
		t.Errorf("%v, %v", f, came)
	}
	if f := pieces.Caught(func() { came = true }); f != (api.Fault{}) || !came {
		t.Errorf("%v, %v", f, came)
	}
}
