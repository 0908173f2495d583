package values_test

import (
	"math"
	"strings"
	"testing"
	"unsafe"

	"duet/api"
	"duet/values"
)

func number(n int64) api.Value { return api.Value{Sort: api.Int, N: n} }

func truth(n int64) api.Value { return api.Value{Sort: api.Bool, N: n} }

func text(s string) api.Value { return api.Value{Sort: api.Text, S: s} }

// spoilt holds what is no value, with what Check says of it.
func spoilt() map[api.Value]api.Errno {
	return map[api.Value]api.Errno{
		{}:                                api.ErrArg,
		{Sort: 4}:                         api.ErrArg,
		{Sort: -1}:                        api.ErrArg,
		{Sort: math.MaxInt}:               api.ErrArg,
		{Sort: math.MinInt}:               api.ErrArg,
		{Sort: api.Int, S: "1"}:           api.ErrArg,
		{Sort: api.Bool, N: 2}:            api.ErrArg,
		{Sort: api.Bool, N: -1}:           api.ErrArg,
		{Sort: api.Bool, S: "x"}:          api.ErrArg,
		{Sort: api.Bool, N: 1, S: "true"}: api.ErrArg,
		{Sort: api.Text, N: 1}:            api.ErrArg,
		{Sort: api.Text, N: -1, S: "a"}:   api.ErrArg,
		text("\xff"):                      api.ErrArg,
		text("a\xc3"):                     api.ErrArg,
		text("\xc0\x80"):                  api.ErrArg,
		text("\xed\xa0\x80"):              api.ErrArg,
		text("\xf4\x90\x80\x80"):          api.ErrArg,
		text(strings.Repeat("\xff", 100)): api.ErrArg,
		text(strings.Repeat("a", 101)):    api.ErrLarge,
		text(strings.Repeat("\xff", 101)): api.ErrLarge,
		text(strings.Repeat("é", 51)):     api.ErrLarge,
		{Sort: api.Text, N: 1, S: strings.Repeat("a", 101)}: api.ErrArg,
		{Sort: api.Int, S: strings.Repeat("a", 101)}:        api.ErrArg,
		{Sort: 4, S: strings.Repeat("a", 101)}:              api.ErrArg,
	}
}

// sound holds values, in order, with the texts that are written of them.
var sound = []struct {
	v api.Value
	s string
}{
	{number(math.MinInt64), "-9223372036854775808"},
	{number(-10), "-10"},
	{number(-1), "-1"},
	{number(0), "0"},
	{number(1), "1"},
	{number(9), "9"},
	{number(10), "10"},
	{number(math.MaxInt64), "9223372036854775807"},
	{truth(0), "false"},
	{truth(1), "true"},
	{text(""), `""`},
	{text("\x00"), "\"\x00\""},
	{text("\t\r"), "\"\t\r\""},
	{text("\n"), `"\n"`},
	{text("\""), `"\""`},
	{text("0"), `"0"`},
	{text("B"), `"B"`},
	{text("\\"), `"\\"`},
	{text("\\n"), `"\\n"`},
	{text("a"), `"a"`},
	{text("a\nb"), `"a\nb"`},
	{text("a\"b\\"), `"a\"b\\"`},
	{text("aa"), `"aa"`},
	{text(strings.Repeat("a", 100)), `"` + strings.Repeat("a", 100) + `"`},
	{text("b"), `"b"`},
	{text("true"), `"true"`},
	{text("\x7f"), "\"\x7f\""},
	{text("é"), `"é"`},
	{text(strings.Repeat("é", 50)), `"` + strings.Repeat("é", 50) + `"`},
	{text("\u2028"), "\"\u2028\""},
	{text("\ufffd"), "\"\ufffd\""},
	{text("\U0010ffff"), "\"\U0010ffff\""},
}

func TestP3CheckTakesValues(t *testing.T) {
	for _, x := range sound {
		if e := values.Check(x.v); e != api.OK {
			t.Errorf("Check(%v) = %d", x.v, e)
		}
	}
}

func TestP3CheckRefusesOthers(t *testing.T) {
	for v, want := range spoilt() {
		if e := values.Check(v); e != want {
			t.Errorf("Check(%v) = %d, want %d", v, e, want)
		}
	}
}

func TestP3CallsOfOneValueSayWhatCheckSays(t *testing.T) {
	for v, want := range spoilt() {
		if s, e := values.Write(v); s != "" || e != want {
			t.Errorf("Write(%v) = %q, %d, want %d", v, s, e, want)
		}
		if n, e := values.Length(v); n != 0 || e != want {
			t.Errorf("Length(%v) = %d, %d, want %d", v, n, e, want)
		}
		if r, e := values.Turned(v); r != (api.Value{}) || e != want {
			t.Errorf("Turned(%v) = %v, %d, want %d", v, r, e, want)
		}
	}
}

func wantErrorOfTwo(t *testing.T, a, b api.Value, want api.Errno) {
	t.Helper()
	if n, e := values.Order(a, b); n != 0 || e != want {
		t.Errorf("Order(%v, %v) = %d, %d, want %d", a, b, n, e, want)
	}
	if r, e := values.Joined(a, b); r != (api.Value{}) || e != want {
		t.Errorf("Joined(%v, %v) = %v, %d, want %d", a, b, r, e, want)
	}
}

func TestP3CallsOfTwoValuesSayWhatCheckSaysOfTheFirst(t *testing.T) {
	for v, want := range spoilt() {
		// An Int beside it: what Check says of either goes ahead of ErrSort.
		for _, good := range []api.Value{text("a"), number(1)} {
			wantErrorOfTwo(t, v, good, want)
			wantErrorOfTwo(t, good, v, want)
		}
		for w := range spoilt() {
			wantErrorOfTwo(t, v, w, want)
		}
	}
}

func TestP4Write(t *testing.T) {
	for _, x := range sound {
		if s, e := values.Write(x.v); s != x.s || e != api.OK {
			t.Errorf("Write(%v) = %q, %d, want %q", x.v, s, e, x.s)
		}
	}
}

func TestP4Read(t *testing.T) {
	for _, x := range sound {
		if v, e := values.Read(x.s); v != x.v || e != api.OK {
			t.Errorf("Read(%q) = %v, %d, want %v", x.s, v, e, x.v)
		}
	}
}

func TestP4ReadRefuses(t *testing.T) {
	for _, s := range []string{
		"", " ", "-", "+", "-0", "007", "00", "-01", "+1", "--1", "- 1", " 1", "1 ", "1\n", "1_0", "0x1", "1.0", "1e3", "1a", "١",
		"9223372036854775808", "-9223372036854775809", "18446744073709551616", strings.Repeat("9", 1000),
		"True", "TRUE", "t", "tru", "truee", "true ", " true", "False", "falsey", "a", "nil",
		`"`, `"a`, `a"`, `"""`, `"a"b`, `"a"b"`, `"a" `, ` "a"`, `"a" "b"`, `'a'`, "`a`",
		`"\"`, `"a\"`, `"\\\"`, `"\`, `"\t"`, `"\N"`, `"\x41"`, `"\u00e9"`, `"\'"`, `"\ "`, "\"\\\n\"", `"\é"`,
		"\"\n\"", "\"a\nb\"", "\"\xff\"", "\"\xc3\"", "\"\xa9\"", "\"\xc0\x80\"", "\"\xed\xa0\x80\"", "\"\\\xc3\xa9\"",
		// Too many bytes, but not so written either: no error but ErrSyntax fits.
		`"` + strings.Repeat("a", 101), `"` + strings.Repeat("a", 101) + "\n\"", `"` + strings.Repeat("a", 101) + `\t"`,
		`"` + strings.Repeat("a", 101) + "\xff\"", "\"\xff" + strings.Repeat("a", 101) + `"`, `"` + strings.Repeat("a", 101) + `"b"`,
		`"` + strings.Repeat("a", 101) + `\"`, strings.Repeat("a", 101),
	} {
		if v, e := values.Read(s); v != (api.Value{}) || e != api.ErrSyntax {
			t.Errorf("Read(%q) = %v, %d", s, v, e)
		}
	}
}

func TestP4ReadCountsTheBytesOfTheTextNotOfItsWriting(t *testing.T) {
	for _, x := range []struct{ piece, written string }{
		{"a", "a"}, {"\n", `\n`}, {`"`, `\"`}, {`\`, `\\`}, {"é", "é"}, {"\U0010ffff", "\U0010ffff"},
	} {
		most := 100 / len(x.piece)
		v, e := values.Read(`"` + strings.Repeat(x.written, most) + `"`)
		if v != text(strings.Repeat(x.piece, most)) || e != api.OK {
			t.Errorf("%d of %q: %v, %d", most, x.written, v, e)
		}
		for _, more := range []int{most + 1, most + 2, 1000, 100000} {
			v, e := values.Read(`"` + strings.Repeat(x.written, more) + `"`)
			if v != (api.Value{}) || e != api.ErrLarge {
				t.Errorf("%d of %q: %v, %d", more, x.written, v, e)
			}
		}
	}
	v, e := values.Read(`"` + strings.Repeat("a", 99) + `é"`)
	if v != (api.Value{}) || e != api.ErrLarge {
		t.Errorf("a letter across the limit: %v, %d", v, e)
	}
}

// eachOf hands on every row of at most most pieces.
func eachOf(pieces []string, most int, do func(string)) {
	var longer func(s string, left int)
	longer = func(s string, left int) {
		do(s)
		if left == 0 {
			return
		}
		for _, p := range pieces {
			longer(s+p, left-1)
		}
	}
	longer("", most)
}

func TestP4WhatIsWrittenIsReadAsItWas(t *testing.T) {
	eachOf([]string{"a", "n", `"`, `\`, "\n", "é", "\x00"}, 5, func(s string) {
		written, e := values.Write(text(s))
		if e != api.OK {
			t.Fatalf("Write of %q: %d", s, e)
		}
		if v, e := values.Read(written); v != text(s) || e != api.OK {
			t.Fatalf("Read(%q) = %v, %d", written, v, e)
		}
	})
	for shift := range 64 {
		for _, n := range []int64{1 << shift, 1<<shift - 1, -1 << shift, -1<<shift - 1} {
			written, _ := values.Write(number(n))
			if v, e := values.Read(written); v != number(n) || e != api.OK {
				t.Errorf("Read(%q) = %v, %d", written, v, e)
			}
		}
	}
}

// wantRead says what must hold of Read, whatever the text: it takes just what is written.
func wantRead(t *testing.T, s string) {
	t.Helper()
	v, e := values.Read(s)
	if e != api.OK {
		if v != (api.Value{}) || e != api.ErrSyntax && e != api.ErrLarge {
			t.Fatalf("Read(%q) = %v, %d", s, v, e)
		}
		return
	}
	if written, e := values.Write(v); written != s || e != api.OK {
		t.Fatalf("Read(%q) = %v, which is written %q, %d", s, v, written, e)
	}
}

func TestP4ReadTakesJustWhatIsWritten(t *testing.T) {
	eachOf([]string{`"`, `\`, "n", "\n", "\xc3", "\xa9", "-", "0", "7"}, 5, func(s string) {
		wantRead(t, s)
		wantRead(t, `"`+s+`"`)
	})
}

func FuzzRead(f *testing.F) {
	for _, x := range sound {
		f.Add(x.s)
	}
	f.Fuzz(func(t *testing.T, s string) { wantRead(t, s) })
}

func TestP5Order(t *testing.T) {
	for i, x := range sound {
		for j, y := range sound {
			want := 0
			if i < j {
				want = -1
			} else if i > j {
				want = 1
			}
			if n, e := values.Order(x.v, y.v); n != want || e != api.OK {
				t.Errorf("Order(%v, %v) = %d, %d, want %d", x.v, y.v, n, e, want)
			}
		}
	}
}

func TestP5Length(t *testing.T) {
	for s, want := range map[string]int{
		"": 0, "a": 1, "é": 1, "éa": 2, "e\u0301": 2, "\U0001f600\x00\n": 3, "\ufffd": 1,
		strings.Repeat("a", 100): 100, strings.Repeat("é", 50): 50, strings.Repeat("\U0010ffff", 25): 25,
	} {
		if n, e := values.Length(text(s)); n != want || e != api.OK {
			t.Errorf("Length(%q) = %d, %d, want %d", s, n, e, want)
		}
	}
}

func TestP5Joined(t *testing.T) {
	long := strings.Repeat("a", 99)
	for _, x := range []struct{ a, b, want string }{
		{"", "", ""},
		{"a", "", "a"},
		{"", "b", "b"},
		{"éa", "b\n", "éab\n"},
		{"\ufffd", "\U0010ffff", "\ufffd\U0010ffff"},
		{long, "b", long + "b"},
		{long, "bc", long + "b"},
		{long + "a", "b", long + "a"},
		{long + "a", long + "a", long + "a"},
		{"b", long + "a", "b" + long},
		{"bc", long, "bc" + long[:98]},
		// A letter that does not fit ends it, even if a smaller one behind it would.
		{long, "éb", long},
		{long[:98], "éb", long[:98] + "é"},
		{long[:98], "\u2028b", long[:98]},
		{long[:97], "\u2028b", long[:97] + "\u2028"},
		{long[:97], "\U0010ffffb", long[:97]},
		{long[:96], "\U0010ffffb", long[:96] + "\U0010ffff"},
		{"a", strings.Repeat("é", 50), "a" + strings.Repeat("é", 49)},
	} {
		if v, e := values.Joined(text(x.a), text(x.b)); v != text(x.want) || e != api.OK {
			t.Errorf("Joined(%q, %q) = %v, %d, want %q", x.a, x.b, v, e, x.want)
		}
	}
}

func TestP5Turned(t *testing.T) {
	for s, want := range map[string]string{
		"": "", "a": "a", "ab": "ba", "éa": "aé", "abc": "cba", "e\u0301": "\u0301e",
		"\ufffda\U0010ffff\n": "\n\U0010ffffa\ufffd", "a\x00": "\x00a",
		"b" + strings.Repeat("é", 49): strings.Repeat("é", 49) + "b",
	} {
		if v, e := values.Turned(text(s)); v != text(want) || e != api.OK {
			t.Errorf("Turned(%q) = %v, %d, want %q", s, v, e, want)
		}
	}
}

func TestP5OthersThanTextsAreErrSort(t *testing.T) {
	for _, v := range []api.Value{number(0), number(-5), truth(0), truth(1)} {
		if n, e := values.Length(v); n != 0 || e != api.ErrSort {
			t.Errorf("Length(%v) = %d, %d", v, n, e)
		}
		if r, e := values.Turned(v); r != (api.Value{}) || e != api.ErrSort {
			t.Errorf("Turned(%v) = %v, %d", v, r, e)
		}
		for _, pair := range [][2]api.Value{{v, text("a")}, {text("a"), v}, {v, v}} {
			if r, e := values.Joined(pair[0], pair[1]); r != (api.Value{}) || e != api.ErrSort {
				t.Errorf("Joined(%v, %v) = %v, %d", pair[0], pair[1], r, e)
			}
		}
	}
}

// overlap asks by addresses, which equality of texts can't tell.
func overlap(a, b string) bool {
	if a == "" || b == "" {
		return false
	}
	x, y := uintptr(unsafe.Pointer(unsafe.StringData(a))), uintptr(unsafe.Pointer(unsafe.StringData(b)))
	return x < y+uintptr(len(b)) && y < x+uintptr(len(a))
}

func TestP2AnswersAreNewMemory(t *testing.T) {
	for _, s := range []string{"a", "ab", "é", strings.Repeat("a", 100), strings.Repeat("é", 50)} {
		written, _ := values.Write(text(s))
		read, _ := values.Read(written)
		turned, _ := values.Turned(text(s))
		ahead, _ := values.Joined(text(s), text(""))
		behind, _ := values.Joined(text(""), text(s))
		if overlap(written, s) || overlap(read.S, written) || overlap(turned.S, s) || overlap(ahead.S, s) || overlap(behind.S, s) {
			t.Errorf("an answer shares the memory of %q", s)
		}
	}
}
