package wires_test

import (
	"encoding/binary"
	"math"
	"reflect"
	"slices"
	"strings"
	"testing"

	"duet/api"
	"duet/types"
	"duet/values"
	"duet/wires"
)

func number(kind int, n int64) api.Event {
	return api.Event{Kind: kind, Value: api.Value{Sort: api.Int, N: n}}
}

func truth(kind int, n int64) api.Event {
	return api.Event{Kind: kind, Value: api.Value{Sort: api.Bool, N: n}}
}

func text(kind int, s string) api.Event {
	return api.Event{Kind: kind, Value: api.Value{Sort: api.Text, S: s}}
}

func label(kind int, s string) api.Event { return api.Event{Kind: kind, Label: s} }

// carry is for texts of which a test takes it for granted that they are read.
func carry(kind int, s string) api.Event {
	t, f := types.Parse(s)
	if f.Code != api.OK {
		panic("no type: " + s)
	}
	return api.Event{Kind: kind, Carry: t}
}

// written holds single events with their bytes.
func written() []struct {
	x api.Event
	s string
} {
	long := strings.Repeat("!int.", 59) + "end"
	return []struct {
		x api.Event
		s string
	}{
		{number(api.Send, 0), "\x02\x01\x00"}, {number(api.Send, -1), "\x02\x01\x01"}, {number(api.Send, 1), "\x02\x01\x02"}, {number(api.Send, -2), "\x02\x01\x03"}, {number(api.Send, -3), "\x02\x01\x05"}, {number(api.Recv, 7), "\x03\x01\x0e"},
		// Where a number needs one group more.
		{number(api.Recv, 63), "\x03\x01\x7e"}, {number(api.Recv, -64), "\x03\x01\x7f"}, {number(api.Recv, 64), "\x03\x01\x80\x01"}, {number(api.Send, -65), "\x02\x01\x81\x01"}, {number(api.Send, 150), "\x02\x01\xac\x02"},
		{number(api.Send, 8191), "\x02\x01\xfe\x7f"}, {number(api.Send, -8192), "\x02\x01\xff\x7f"}, {number(api.Send, 8192), "\x02\x01\x80\x80\x01"}, {number(api.Send, -8193), "\x02\x01\x81\x80\x01"},
		{number(api.Send, 1<<62-1), "\x02\x01\xfe\xff\xff\xff\xff\xff\xff\xff\x7f"}, {number(api.Send, -1<<62), "\x02\x01\xff\xff\xff\xff\xff\xff\xff\xff\x7f"}, {number(api.Send, 1<<62), "\x02\x01\x80\x80\x80\x80\x80\x80\x80\x80\x80\x01"}, {number(api.Send, -1<<62-1), "\x02\x01\x81\x80\x80\x80\x80\x80\x80\x80\x80\x01"},
		{number(api.Send, math.MaxInt64), "\x02\x01\xfe\xff\xff\xff\xff\xff\xff\xff\xff\x01"}, {number(api.Recv, math.MinInt64), "\x03\x01\xff\xff\xff\xff\xff\xff\xff\xff\xff\x01"},
		{truth(api.Send, 0), "\x02\x02\x00"}, {truth(api.Send, 1), "\x02\x02\x01"}, {truth(api.Recv, 0), "\x03\x02\x00"}, {truth(api.Recv, 1), "\x03\x02\x01"},
		// A Text's bytes as they are: nothing is written otherwise here.
		{text(api.Send, ""), "\x02\x03\x00"}, {text(api.Send, "a"), "\x02\x03\x01a"}, {text(api.Recv, "a\nb"), "\x03\x03\x03a\nb"}, {text(api.Recv, "\"\\n\x00"), "\x03\x03\x04\"\\n\x00"}, {text(api.Send, "é"), "\x02\x03\x02\xc3\xa9"}, {text(api.Send, strings.Repeat("a", 100)), "\x02\x03\x64" + strings.Repeat("a", 100)}, {text(api.Send, strings.Repeat("\U0010ffff", 25)), "\x02\x03\x64" + strings.Repeat("\U0010ffff", 25)},
		{carry(api.Give, "end"), "\x04\x03end"}, {carry(api.Take, "end"), "\x05\x03end"}, {carry(api.Give, "!{?text.end}.+{a:end,b:end}"), "\x04\x1b!{?text.end}.+{a:end,b:end}"}, {carry(api.Take, "rec t.&{go:?bool.t,no:end}"), "\x05\x1arec t.&{go:?bool.t,no:end}"},
		{carry(api.Give, strings.Repeat("!int.", 24)+"rec t.?int.t"), "\x04\x84\x01" + strings.Repeat("!int.", 24) + "rec t.?int.t"}, {carry(api.Take, long), "\x05\xaa\x02" + long},
		{label(api.Pick, "go"), "\x06\x02go"}, {label(api.Offer, "go"), "\x07\x02go"}, {label(api.Pick, "a"), "\x06\x01a"}, {label(api.Offer, "abcdefgh"), "\x07\x08abcdefgh"}, {label(api.Pick, "end"), "\x06\x03end"}, {label(api.Pick, "rec"), "\x06\x03rec"},
	}
}

func wantWritten(t *testing.T, l []api.Event, want string) {
	t.Helper()
	if s, e := wires.Write(l); s != want || e != api.OK {
		t.Errorf("Write(%v) = %q, %d, want %q", l, s, e, want)
	}
}

func wantRead(t *testing.T, s string, want []api.Event) {
	t.Helper()
	l, f := wires.Read(s)
	if f != (api.Fault{}) || len(l) != len(want) || len(l) > 0 && !reflect.DeepEqual(l, want) {
		t.Errorf("Read(%q) = %v, %v, want %v", s, l, f, want)
	}
}

func wantFault(t *testing.T, s string, want api.Fault) {
	t.Helper()
	if l, f := wires.Read(s); l != nil || f != want {
		t.Errorf("Read(%q) = %v, %v, want %v", s, l, f, want)
	}
}

func wantSyntax(t *testing.T, s string, at int) {
	t.Helper()
	wantFault(t, s, api.Fault{Code: api.ErrSyntax, At: at})
}

func wantUnwritten(t *testing.T, l []api.Event, want api.Errno) {
	t.Helper()
	if s, e := wires.Write(l); s != "" || e != want {
		t.Errorf("Write(%v) = %q, %d, want %d", l, s, e, want)
	}
}

func TestP33OneEvent(t *testing.T) {
	for _, x := range written() {
		wantWritten(t, []api.Event{x.x}, x.s)
		wantRead(t, x.s, []api.Event{x.x})
	}
}

func TestP33OneBehindTheOther(t *testing.T) {
	wantWritten(t, nil, "")
	wantWritten(t, []api.Event{}, "")
	wantRead(t, "", nil)
	var l []api.Event
	var s string
	for _, x := range written() {
		l, s = append(l, x.x), s+x.s
		wantWritten(t, l, s)
		wantRead(t, s, l)
	}
}

// endless is a type that is its own kid.
func endless() api.Type {
	t := api.Type{Kind: api.Send, Sort: api.Int, Kids: make([]api.Type, 1)}
	t.Kids[0] = t
	return t
}

// TestP33WhatAKindDoesNotUseIsNotLookedAt: and what is read has nothing there.
func TestP33WhatAKindDoesNotUseIsNotLookedAt(t *testing.T) {
	for _, x := range written() {
		y := x.x
		for _, c := range []api.Type{{Kind: api.Var, Name: "t"}, {Kind: 99}, {Sort: 7, Name: "\xff", Labels: []string{"b", "a"}}, endless()} {
			if y.Kind != api.Give && y.Kind != api.Take {
				y.Carry = c
			}
			for _, v := range []api.Value{{Sort: 9}, {Sort: api.Text, S: strings.Repeat("\xff", 200)}, {N: 5}, {Sort: api.Int, N: 1}} {
				if y.Kind != api.Send && y.Kind != api.Recv {
					y.Value = v
				}
				for _, s := range []string{"", "a", "true", "\xff", strings.Repeat("a", 1000)} {
					if y.Kind != api.Pick && y.Kind != api.Offer {
						y.Label = s
					}
					if got, e := wires.Write([]api.Event{y}); got != x.s || e != api.OK {
						t.Fatalf("Write of one of kind %d = %q, %d, want %q", y.Kind, got, e, x.s)
					}
				}
			}
		}
	}
}

func kinds() []int {
	return []int{0, api.End, api.Rec, api.Var, 10, -1, -2, 256, 256 + api.Send, 1<<32 + api.Pick, math.MinInt, math.MaxInt}
}

// wrong holds events that can't be written, with what is said of them.
func wrong() []struct {
	x api.Event
	e api.Errno
} {
	type row = struct {
		x api.Event
		e api.Errno
	}
	var out []row
	for _, kind := range kinds() {
		for _, x := range written() {
			x.x.Kind = kind
			out = append(out, row{x.x, api.ErrArg})
		}
		out = append(out, row{text(kind, strings.Repeat("a", 101)), api.ErrArg}, row{api.Event{Kind: kind, Carry: endless()}, api.ErrArg})
	}
	for _, kind := range []int{api.Pick, api.Offer} {
		for _, s := range []string{"", "abcdefghi", "A", "a1", "a ", " a", "é", "\xff", "a\x00", "true", "false", "and", "or", "not", strings.Repeat("a", 5000)} {
			out = append(out, row{label(kind, s), api.ErrArg})
		}
	}
	for _, kind := range []int{api.Send, api.Recv} {
		for _, v := range []api.Value{{}, {Sort: 4}, {Sort: -1}, {Sort: 256 + api.Int}, {Sort: math.MaxInt}, {Sort: api.Int, S: "1"}, {Sort: api.Bool, N: 2}, {Sort: api.Bool, N: -1}, {Sort: api.Bool, N: 256}, {Sort: api.Bool, S: "x"}, {Sort: api.Text, N: 1}, {Sort: api.Text, S: "\xff"}, {Sort: api.Text, S: "a\xc3"}} {
			out = append(out, row{api.Event{Kind: kind, Value: v}, api.ErrArg})
		}
		out = append(out, row{text(kind, strings.Repeat("a", 101)), api.ErrLarge}, row{text(kind, strings.Repeat("\xff", 101)), api.ErrLarge})
	}
	end := api.Type{Kind: api.End}
	long := end
	for range 60 {
		long = api.Type{Kind: api.Send, Sort: api.Int, Kids: []api.Type{long}}
	}
	for _, kind := range []int{api.Give, api.Take} {
		for _, x := range []struct {
			t api.Type
			e api.Errno
		}{
			{api.Type{}, api.ErrArg}, {api.Type{Kind: 10}, api.ErrArg}, {api.Type{Kind: api.End, Sort: 1}, api.ErrArg}, {api.Type{Kind: api.Send, Sort: 4, Kids: []api.Type{end}}, api.ErrArg}, {api.Type{Kind: api.Pick, Labels: []string{"b", "a"}, Kids: []api.Type{end, end}}, api.ErrArg},
			{api.Type{Kind: api.Var, Name: "t"}, api.ErrName}, {api.Type{Kind: api.Rec, Name: "t", Kids: []api.Type{{Kind: api.Var, Name: "t"}}}, api.ErrType}, {long, api.ErrLarge}, {endless(), api.ErrLarge},
		} {
			out = append(out, row{api.Event{Kind: kind, Carry: x.t}, x.e})
		}
	}
	return out
}

func TestP33WriteRefuses(t *testing.T) {
	good := []api.Event{number(api.Send, 1), label(api.Pick, "go")}
	for _, x := range wrong() {
		wantUnwritten(t, []api.Event{x.x}, x.e)
		wantUnwritten(t, slices.Concat(good, []api.Event{x.x}, good), x.e)
		if want := values.Check(x.x.Value); (x.x.Kind == api.Send || x.x.Kind == api.Recv) && x.e != want {
			t.Errorf("%v: values.Check says %d", x.x, want)
		}
		if want := types.Check(x.x.Carry); (x.x.Kind == api.Give || x.x.Kind == api.Take) && x.e != want {
			t.Errorf("%v: types.Check says %d", x.x, want)
		}
	}
}

// TestP33WriteSaysTheFirst: the first event that is wrong, whichever error it has.
func TestP33WriteSaysTheFirst(t *testing.T) {
	first := map[api.Errno]api.Event{}
	for _, x := range wrong() {
		first[x.e] = x.x
	}
	for e, x := range first {
		for _, y := range first {
			wantUnwritten(t, []api.Event{x, y}, e)
		}
	}
	if len(first) != 4 {
		t.Errorf("%d errors", len(first))
	}
}

func TestP33WriteOfTooMany(t *testing.T) {
	l := slices.Repeat([]api.Event{label(api.Pick, "a")}, 200)
	wantWritten(t, l, strings.Repeat("\x06\x01a", 200))
	for _, x := range []api.Event{l[0], {}, carry(api.Give, "end")} {
		wantUnwritten(t, append(slices.Clip(l), x), api.ErrLarge)
	}
	for _, x := range wrong() {
		wantUnwritten(t, append([]api.Event{x.x}, l...), api.ErrLarge)
	}
	wantUnwritten(t, make([]api.Event, 100000), api.ErrLarge)
}

func TestP33ReadOfTooMany(t *testing.T) {
	full := strings.Repeat("\x06\x01a", 199) + "\x02\x01\xac\x02"
	wantRead(t, full, append(slices.Repeat([]api.Event{label(api.Pick, "a")}, 199), number(api.Send, 150)))
	large := api.Fault{Code: api.ErrLarge, At: len(full)}
	// Whatever stands there, as it is told first: also what is no kind.
	for _, s := range []string{"\x06\x01a", "\x06", "\x00", "\x08", "\xff", "\x02\x01\xac\x02\x00", strings.Repeat("\x06\x01a", 500)} {
		wantFault(t, full+s, large)
	}
	// What can't be ahead of it is told ahead of it.
	wantSyntax(t, "\x08"+full, 0)
	wantSyntax(t, full[:len(full)-1]+"\x00\x02\x02\x00", len(full)-2)
	wantSyntax(t, full[:len(full)-1], len(full)-1)
	wantSyntax(t, full[:len(full)-2], len(full)-2)
	wantSyntax(t, full[:len(full)-3], len(full)-3)
}

func TestP33ReadRefuses(t *testing.T) {
	nines := strings.Repeat("\xff", 9)
	for _, x := range []struct {
		s  string
		at int
	}{
		// Of a kind, of a sort, of a Bool.
		{"\x00", 0}, {"\x01", 0}, {"\x08", 0}, {"\x09", 0}, {"\x0a", 0}, {"\x82", 0}, {"\xff", 0}, {" \x02", 0}, {"2", 0}, {"\x01\x01\x01", 0},
		{"\x02\x00", 1}, {"\x02\x04", 1}, {"\x03\x81", 1}, {"\x03\xff\x00", 1}, {"\x02\x021", 2}, {"\x02\x02\x02", 2}, {"\x03\x02\x80", 2}, {"\x03\x02\xff", 2},
		// Of a number: in more bytes than it needs.
		{"\x02\x01\x80\x00", 2}, {"\x02\x01\x81\x00", 2}, {"\x02\x01\x80\x80\x00", 2}, {"\x02\x01\xff\xff\x00", 2}, {"\x02\x01" + nines + "\x00", 2}, {"\x02\x01" + strings.Repeat("\x80", 9) + "\x00", 2}, {"\x02\x01\x80\x00\x06\x02go", 2}, {"\x03\x03\x80\x00", 2}, {"\x03\x03\x81\x00a", 2}, {"\x06\x82\x00go", 1}, {"\x05\x83\x00end", 1},
		// Of a number above 2^64 - 1, which its tenth byte tells, whether more follow or not.
		{"\x02\x01" + nines + "\x02", 2}, {"\x02\x01" + nines + "\x03", 2}, {"\x02\x01" + nines + "\x7f", 2}, {"\x02\x01" + nines + "\x80", 2}, {"\x02\x01" + nines + "\x81", 2}, {"\x02\x01" + nines + "\xff", 2}, {"\x02\x01" + nines + "\x80\x00", 2}, {"\x02\x01" + nines + "\x81\x00", 2}, {"\x02\x01" + nines + "\x80\x01", 2}, {"\x02\x01" + strings.Repeat("\x80", 9) + "\x02", 2}, {"\x02\x01" + strings.Repeat("\x80", 10), 2}, {"\x02\x01" + strings.Repeat("\x80", 100) + "\x01", 2}, {"\x02\x03" + nines + "\x02", 2}, {"\x06" + nines + "\x02go", 1},
		// Of a text with more bytes than there are left.
		{"\x06\x01", 1}, {"\x06\x02g", 1}, {"\x06\x05go", 1}, {"\x02\x03\x01", 2}, {"\x02\x03\x02a", 2}, {"\x02\x03\x64" + strings.Repeat("a", 99), 2}, {"\x04\x03en", 1}, {"\x04\x7fend", 1}, {"\x05\xff\xff\xff\xff\x0fend", 1}, {"\x05" + nines + "\x01end", 1}, {"\x02\x03" + nines + "\x01", 2}, {"\x06\x80\x80\x80\x80\x10a", 1}, {"\x06\x81\x80\x80\x80\x10a", 1}, {"\x06\x80\x80\x80\x80\x80\x80\x80\x80\x80\x01a", 1}, {"\x06\x81\x80\x80\x80\x80\x80\x80\x80\x80\x01a", 1},
		// Where the bytes end too early.
		{"\x02", 1}, {"\x03", 1}, {"\x04", 1}, {"\x05", 1}, {"\x06", 1}, {"\x07", 1}, {"\x02\x01", 2}, {"\x02\x02", 2}, {"\x02\x03", 2}, {"\x02\x01\x80", 3}, {"\x02\x01\xff\xff", 4}, {"\x02\x01" + nines, 11}, {"\x02\x03\x80", 3}, {"\x04\x83", 2}, {"\x06\x82", 2},
	} {
		wantSyntax(t, x.s, x.at)
		// Behind other events likewise.
		wantSyntax(t, "\x02\x01\x05\x06\x02go"+x.s, 7+x.at)
	}
}

// counted is a text with its number ahead.
func counted(s string) string { return string(binary.AppendUvarint(nil, uint64(len(s)))) + s }

func TestP33ReadRefusesTextsThatAreNone(t *testing.T) {
	for ahead, texts := range map[string][]string{
		"\x02\x03": {"\xff", "\xc3", "a\xc3", "\xa9a", "\xc0\x80", "\xed\xa0\x80", "\xf4\x90\x80\x80", strings.Repeat("a", 101), strings.Repeat("é", 51), strings.Repeat("a", 128), strings.Repeat("a", 20000)},
		"\x06":     {"", "A", " ", "a b", "a ", " a", "a1", "a:", "abcdefghi", "true", "false", "and", "or", "not", "é", "\"a\"", "\x00", strings.Repeat("a", 200)},
		"\x04": {"", "xy", "en", "ends", "end.", "end\n", "END", "!int.en", "!int.", "!real.end", "!int.end.", "+{b:end,a:end}", "+{a:end,a:end}", "+{}", "!{end}", "\xff\xfe\xfd", "t", "rec t.t", "rec t.rec u.t", "!int.t", strings.Repeat("!int.", 60) + "end",
			// Types that are written otherwise.
			"end ", " end", "!int. end", "! int.end", "!int .end", "+{a: end}", "+ {a:end}", "+{a:end} ", "!{ end}.end", "rec  t.!int.t", "rec t .!int.t", "rec t. !int.t", strings.Repeat(" ", 1998) + "end"},
	} {
		for _, s := range texts {
			bytes := ahead + counted(s)
			for _, more := range []string{"", "\x06\x02go", " ", "\xff"} {
				wantSyntax(t, bytes+more, len(ahead))
				wantSyntax(t, string(ahead[0]+1)+bytes[1:]+more, len(ahead))
				wantSyntax(t, "\x07\x02go"+bytes+more, 4+len(ahead))
			}
		}
	}
}

func TestP33TypesOfManyBytes(t *testing.T) {
	wide := "+{abcdefgh:abcdefgh}"
	for range 58 {
		wide = "rec abcdefgh." + wide
	}
	for _, s := range []string{wide, strings.Repeat("&{abcdefgh:", 59) + "end" + strings.Repeat("}", 59)} {
		x := carry(api.Give, s)
		bytes := "\x04" + counted(s)
		wantWritten(t, []api.Event{x}, bytes)
		wantRead(t, bytes, []api.Event{x})
	}
}
