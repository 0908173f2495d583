package monitor_test

import (
	"math"
	"strings"
	"testing"

	"duet/api"
	"duet/monitor"
	"duet/types"
	"duet/values"
)

// parsed is for texts of which a test takes it for granted that they are read.
func parsed(t *testing.T, s string) api.Type {
	t.Helper()
	x, f := types.Parse(s)
	if f.Code != api.OK {
		t.Fatalf("Parse(%q): %v", s, f)
	}
	return x
}

// begun is a monitor of an end that nothing has been done at.
func begun(t *testing.T, s string) *monitor.Monitor {
	t.Helper()
	m, e := monitor.New(parsed(t, s))
	if m == nil || e != api.OK {
		t.Fatalf("New(%s) = %v, %d", s, m, e)
	}
	return m
}

// event of a text: !, ? and a value; !{, ?{ and a type, and }; +, & and a label.
func event(t *testing.T, s string) api.Event {
	t.Helper()
	if s[0] == '+' {
		return api.Event{Kind: api.Pick, Label: s[1:]}
	}
	if s[0] == '&' {
		return api.Event{Kind: api.Offer, Label: s[1:]}
	}
	in := strings.Index("!?", s[:1])
	if s[1] == '{' {
		return api.Event{Kind: api.Give + in, Carry: parsed(t, s[2:len(s)-1])}
	}
	v, e := values.Read(s[1:])
	if e != api.OK {
		t.Fatalf("Read(%q): %d", s[1:], e)
	}
	return api.Event{Kind: api.Send + in, Value: v}
}

// each of some events that are told with "; " between them.
func each(events string) []string {
	if events == "" {
		return nil
	}
	return strings.Split(events, "; ")
}

// seen is all that a monitor tells.
type seen struct {
	done, verdict int
	ended         bool
	next          int
}

func see(m *monitor.Monitor) seen {
	done, verdict, ended := m.State()
	return seen{done, verdict, ended, m.Next()}
}

// wantFine looks whether events are fine one after the other, and what comes next in the end.
func wantFine(t *testing.T, s, events string, next int) {
	t.Helper()
	m := begun(t, s)
	for k, x := range each(events) {
		if v, e := m.Take(event(t, x)); v != 0 || e != api.OK {
			t.Errorf("%s, %s: Take(%s) = %d, %d", s, events, x, v, e)
		}
		if n, v, _ := m.State(); n != k+1 || v != 0 {
			t.Errorf("%s, %s: State behind %s: %d, %d", s, events, x, n, v)
		}
	}
	if got, want := see(m), (seen{len(each(events)), 0, next == api.End, next}); got != want {
		t.Errorf("%s, %s: %v, want %v", s, events, got, want)
	}
}

// wantBlame looks whether events are fine up to the last one, of which somebody is to blame, from then on.
func wantBlame(t *testing.T, s, events string, blamed int) {
	t.Helper()
	m := begun(t, s)
	all := each(events)
	last := len(all) - 1
	for _, x := range all[:last] {
		if v, e := m.Take(event(t, x)); v != 0 || e != api.OK {
			t.Errorf("%s, %s: Take(%s) = %d, %d", s, events, x, v, e)
		}
	}
	want := seen{done: last, verdict: blamed}
	for _, x := range []string{all[last], "?1", "!1", "?{end}", "!{end}", "&a", "+a", "!true", all[last], all[0]} {
		if v, e := m.Take(event(t, x)); v != blamed || e != api.OK {
			t.Errorf("%s, %s: Take(%s) = %d, %d, want %d", s, events, x, v, e, blamed)
		}
		if got := see(m); got != want {
			t.Errorf("%s, %s: %v behind %s, want %v", s, events, got, x, want)
		}
	}
}

func TestP22Fine(t *testing.T) {
	for _, x := range []struct {
		s, events string
		next      int
	}{
		{"!int.end", "!7", api.End}, {"!int.end", "!-9223372036854775808", api.End}, {"!bool.end", "!true", api.End}, {"!bool.end", "!false", api.End}, {`!text.end`, `!""`, api.End}, {`!text.end`, `!"a\nb"`, api.End}, {"?int.end", "?0", api.End}, {"?bool.end", "?true", api.End}, {"?text.end", `?"x"`, api.End},
		{"!int.?bool.!text.end", "!1", api.Recv}, {"!int.?bool.!text.end", "!1; ?true", api.Send}, {"!int.?bool.!text.end", `!1; ?true; !"x"`, api.End},
		{"+{a:end,b:!int.end}", "+a", api.End}, {"+{a:end,b:!int.end}", "+b", api.Send}, {"&{a:end,b:!int.end}", "&a", api.End}, {"&{a:end,b:!int.end}", "&b; !3", api.End}, {"&{a:end,b:end,c:end,d:end,e:end,f:?int.end}", "&f", api.Recv}, {"+{aa:end,ab:?int.end,b:!int.end}", "+ab", api.Recv},
		// A channel of a type below the one that is carried, whether it goes out or comes in; what comes next is not what is carried.
		{"!{!int.end}.end", "!{!int.end}", api.End}, {"?{!int.end}.end", "?{!int.end}", api.End}, {"!{end}.!int.end", "!{end}", api.Send}, {"?{!int.end}.?int.end", "?{!int.end}", api.Recv}, {"!{+{a:end}}.end", "!{+{a:end,b:end}}", api.End}, {"?{+{a:end}}.end", "?{+{a:end,b:!int.end}}", api.End}, {"!{&{a:end,b:end}}.end", "!{&{b:end}}", api.End}, {"?{&{a:end,b:end}}.end", "?{&{a:end}}", api.End},
		{"!{!{+{a:end,b:end}}.end}.end", "!{!{+{a:end}}.end}", api.End}, {"?{?{+{a:end}}.end}.end", "?{?{+{a:end,b:end}}.end}", api.End}, {"!{rec t.!int.t}.end", "!{!int.rec u.!int.!int.u}", api.End}, {"rec t.!{t}.t", "!{rec t.!{t}.t}; !{!{rec t.!{t}.t}.rec t.!{t}.t}", api.Give}, {"!int.&{a:rec t.?{+{a:t}}.t}", "!1; &a; ?{+{a:rec t.?{+{a:t}}.t,b:end}}", api.Take},
		// For ever, and from anywhere.
		{"rec t.!int.t", "!1; !2; !3; !4", api.Send}, {"rec t.+{go:!int.t,no:end}", "+go; !1; +go; !2; +no", api.End}, {"rec t.+{go:!int.t,no:end}", "+go; !1; +go", api.Send}, {"rec t.!int.rec u.&{again:u,all:t,no:end}", "!1; &again; &again; &all; !2; &all; !3; &again; &no", api.End}, {"rec t.rec u.!int.?int.u", "!1; ?1; !2", api.Recv},
		{"end", "", api.End}, {"rec t.end", "", api.End}, {"!int.end", "", api.Send}, {"?int.end", "", api.Recv}, {"!{end}.end", "", api.Give}, {"?{end}.end", "", api.Take}, {"+{a:end}", "", api.Pick}, {"&{a:end}", "", api.Offer}, {"rec t.rec u.&{a:t}", "", api.Offer},
	} {
		wantFine(t, x.s, x.events, x.next)
	}
}

func TestP22Blame(t *testing.T) {
	// What goes out wrongly is this end's fault, what comes in the other one's, whatever the type does here.
	for _, s := range []string{"end", "!int.end", "?int.end", "!{end}.end", "?{end}.end", "+{a:end}", "&{a:end}", "rec t.!int.t"} {
		wrong := map[string]int{"!true": 1, "!{!int.end}": 1, "+b": 1, "?true": 2, "?{!int.end}": 2, "&b": 2}
		for x, blamed := range wrong {
			wantBlame(t, s, x, blamed)
		}
	}
	for _, x := range []struct {
		s, events string
		blamed    int
	}{
		// The same thing, in the wrong direction.
		{"!int.end", "?7", 2}, {"?int.end", "!7", 1}, {"!{end}.end", "?{end}", 2}, {"?{end}.end", "!{end}", 1}, {"+{a:end}", "&a", 2}, {"&{a:end}", "+a", 1},
		// Of another sort.
		{"!int.end", "!true", 1}, {"!int.end", `!"1"`, 1}, {"!bool.end", "!1", 1}, {"!text.end", "!0", 1}, {"?int.end", "?false", 2}, {"?text.end", "?true", 2}, {"?bool.end", `?""`, 2},
		// Of another label: any text may be one, and is not asked to be a name.
		{"+{a:end,b:end}", "+c", 1}, {"&{a:end,b:end}", "&c", 2}, {"+{a:end}", "+", 1}, {"&{a:end}", "&", 2}, {"+{a:end}", "+aa", 1}, {"&{aa:end}", "&a", 2}, {"+{a:end}", "+A", 1}, {"+{a:end}", "+\xff\x00", 1}, {"+{a:end}", "+a\x00", 1}, {"&{a:end}", "&aaaaaaaaa", 2}, {"&{a:end}", "&" + strings.Repeat("a", 5000), 2}, {"+{a:end}", "+end", 1},
		// Of a channel that is not below.
		{"!{+{a:end,b:end}}.end", "!{+{a:end}}", 1}, {"?{+{a:end,b:end}}.end", "?{+{a:end}}", 2}, {"!{&{a:end}}.end", "!{&{a:end,b:end}}", 1}, {"?{&{a:end}}.end", "?{&{a:end,b:end}}", 2}, {"!{!{+{a:end}}.end}.end", "!{!{+{a:end,b:end}}.end}", 1}, {"?{!int.end}.end", "?{?int.end}", 2}, {"!{!int.end}.?int.end", "!{?int.end}", 1}, {"!{end}.!int.end", "!{!int.end}", 1}, {"!{rec t.!int.t}.end", "!{!int.!int.end}", 1},
		// Further on, and behind the end.
		{"!int.end", "!1; !1", 1}, {"!int.end", "!1; ?1", 2}, {"!int.?bool.end", "!1; ?2", 2}, {"!int.?bool.end", "!1; !true", 1}, {"rec t.+{go:!int.t,no:end}", "+go; !1; +go; +go", 1}, {"rec t.+{go:!int.t,no:end}", "+go; !1; +no; +no", 1}, {"&{a:end,b:!{+{x:end,y:end}}.end}", "&b; !{+{x:end}}", 1}, {"&{a:end,b:!{+{x:end,y:end}}.end}", "&a; !{+{x:end,y:end}}", 1}, {"+{a:end,b:!int.end}", "+b; !1; &b", 2},
		{"rec t.?{t}.t", "?{rec t.?{t}.t}; ?{?{end}.end}", 2},
	} {
		wantBlame(t, x.s, x.events, x.blamed)
	}
}

func TestP22New(t *testing.T) {
	begun(t, strings.Repeat("!int.", 59)+"end")
	for i, x := range wrongTypes() {
		m, e := monitor.New(x.t)
		if m != nil || e != x.e || e != types.Check(x.t) {
			t.Errorf("%d: New = %v, %d, want %d", i, m, e, x.e)
		}
	}
}

// wrongType is a type with what types.Check says of it.
type wrongType struct {
	t api.Type
	e api.Errno
}

// endless is a type that is its own kid.
func endless() api.Type {
	t := api.Type{Kind: api.Send, Sort: api.Int, Kids: make([]api.Type, 1)}
	t.Kids[0] = t
	return t
}

func wrongTypes() []wrongType {
	end := api.Type{Kind: api.End}
	long := end
	for range 60 {
		long = api.Type{Kind: api.Send, Sort: api.Int, Kids: []api.Type{long}}
	}
	return []wrongType{
		{api.Type{}, api.ErrArg}, {api.Type{Kind: 10}, api.ErrArg}, {api.Type{Kind: -1}, api.ErrArg}, {api.Type{Kind: api.End, Sort: 1}, api.ErrArg}, {api.Type{Kind: api.Send, Sort: 4, Kids: []api.Type{end}}, api.ErrArg}, {api.Type{Kind: api.Give, Kids: []api.Type{end}}, api.ErrArg}, {api.Type{Kind: api.Pick}, api.ErrArg}, {api.Type{Kind: api.Pick, Labels: []string{"b", "a"}, Kids: []api.Type{end, end}}, api.ErrArg},
		{api.Type{Kind: api.Var, Name: "t"}, api.ErrName}, {api.Type{Kind: api.Rec, Name: "t", Kids: []api.Type{{Kind: api.Var, Name: "t"}}}, api.ErrType}, {long, api.ErrLarge}, {endless(), api.ErrLarge},
	}
}

// wrongEvents is events that are none, with what is said of them.
func wrongEvents() []struct {
	x api.Event
	e api.Errno
} {
	type row = struct {
		x api.Event
		e api.Errno
	}
	var out []row
	one, end := api.Value{Sort: api.Int, N: 1}, api.Type{Kind: api.End}
	large := api.Value{Sort: api.Text, S: strings.Repeat("x", 101)}
	open := api.Type{Kind: api.Var, Name: "t"}
	// A kind that is none goes ahead of all.
	for _, kind := range []int{0, api.End, api.Rec, api.Var, 10, -1, -2, math.MinInt, math.MaxInt, 1<<32 + api.Send} {
		out = append(out, row{api.Event{Kind: kind}, api.ErrArg}, row{api.Event{Kind: kind, Value: one}, api.ErrArg}, row{api.Event{Kind: kind, Value: large}, api.ErrArg}, row{api.Event{Kind: kind, Carry: end}, api.ErrArg}, row{api.Event{Kind: kind, Carry: open}, api.ErrArg}, row{api.Event{Kind: kind, Label: "a"}, api.ErrArg})
	}
	// What it uses: it goes ahead of what it does not use.
	for _, kind := range []int{api.Send, api.Recv} {
		for _, v := range []api.Value{{}, {Sort: 4}, {Sort: -1, N: 1}, {Sort: api.Int, S: "x"}, {Sort: api.Bool, N: 2}, {Sort: api.Bool, N: -1}, {Sort: api.Text, N: 1}, {Sort: api.Text, S: "\xff"}} {
			out = append(out, row{api.Event{Kind: kind, Value: v}, api.ErrArg})
		}
		out = append(out, row{api.Event{Kind: kind, Value: large}, api.ErrLarge}, row{api.Event{Kind: kind, Value: large, Label: "a"}, api.ErrLarge}, row{api.Event{Kind: kind, Value: large, Carry: end}, api.ErrLarge})
	}
	for _, kind := range []int{api.Give, api.Take} {
		for _, w := range wrongTypes() {
			out = append(out, row{api.Event{Kind: kind, Carry: w.t}, w.e}, row{api.Event{Kind: kind, Carry: w.t, Value: one}, w.e}, row{api.Event{Kind: kind, Carry: w.t, Value: large, Label: "a"}, w.e})
		}
	}
	// What it does not use: not looked at further than whether it is empty.
	for _, x := range []api.Event{{Kind: api.Send, Value: one}, {Kind: api.Recv, Value: one}, {Kind: api.Give, Carry: end}, {Kind: api.Take, Carry: end}, {Kind: api.Pick, Label: "a"}, {Kind: api.Offer, Label: "a"}} {
		if x.Kind != api.Send && x.Kind != api.Recv {
			for _, v := range []api.Value{one, {Sort: api.Int}, {N: 1}, {S: "x"}, large} {
				y := x
				y.Value = v
				out = append(out, row{y, api.ErrArg})
			}
		}
		if x.Kind != api.Give && x.Kind != api.Take {
			for _, c := range []api.Type{end, {Kind: api.Send}, {Sort: 1}, {Sort: -1}, {Name: "t"}, {Labels: []string{""}}, {Kids: []api.Type{{}}}, open, endless()} {
				y := x
				y.Carry = c
				out = append(out, row{y, api.ErrArg})
			}
		}
		if x.Kind != api.Pick && x.Kind != api.Offer {
			y := x
			y.Label = "a"
			out = append(out, row{y, api.ErrArg}, row{api.Event{Kind: x.Kind, Value: x.Value, Carry: x.Carry, Label: "\x00"}, api.ErrArg})
		}
	}
	return out
}

func TestP22WrongEvents(t *testing.T) {
	for _, s := range []string{"end", "!int.end", "?int.end", "!{end}.end", "?{end}.end", "+{a:end}", "&{a:end}", "rec t.!int.t"} {
		for _, before := range []string{"", "?true", "!true"} {
			m := begun(t, s)
			if before != "" {
				m.Take(event(t, before))
			}
			want := see(m)
			for i, x := range wrongEvents() {
				if v, e := m.Take(x.x); v != 0 || e != x.e {
					t.Errorf("%s, %s, %d: Take(%v) = %d, %d, want %d", s, before, i, x.x.Kind, v, e, x.e)
				}
				if got := see(m); got != want {
					t.Errorf("%s, %s, %d: %v, but %v ahead of the error", s, before, i, got, want)
				}
			}
		}
	}
}

// TestP22EmptyLists: a list that has nothing in it is none.
func TestP22EmptyLists(t *testing.T) {
	none := api.Type{Labels: []string{}, Kids: []api.Type{}}
	m := begun(t, "!int.+{a:!{end}.end}")
	for _, x := range []api.Event{{Kind: api.Send, Value: api.Value{Sort: api.Int}, Carry: none}, {Kind: api.Pick, Label: "a", Carry: none}, {Kind: api.Give, Carry: api.Type{Kind: api.End, Labels: []string{}, Kids: []api.Type{}}}} {
		if v, e := m.Take(x); v != 0 || e != api.OK {
			t.Errorf("Take(%v) = %d, %d", x, v, e)
		}
	}
	if got, want := see(m), (seen{3, 0, true, api.End}); got != want {
		t.Errorf("%v, want %v", got, want)
	}
}

// TestP22AfterAnError: what is wrong is passed over, and it goes on.
func TestP22AfterAnError(t *testing.T) {
	m := begun(t, "rec t.+{go:!int.t,no:end}")
	for k := range 3 {
		for _, x := range []string{"+go", "!1"} {
			for _, wrong := range wrongEvents() {
				m.Take(wrong.x)
			}
			if v, e := m.Take(event(t, x)); v != 0 || e != api.OK {
				t.Fatalf("%d: Take(%s) = %d, %d", k, x, v, e)
			}
		}
	}
	if got, want := see(m), (seen{6, 0, false, api.Pick}); got != want {
		t.Errorf("%v, want %v", got, want)
	}
}

func TestP23State(t *testing.T) {
	for _, x := range []struct {
		s, events string
		want      seen
	}{
		{"end", "", seen{0, 0, true, api.End}}, {"rec t.end", "", seen{0, 0, true, api.End}}, {"!int.end", "", seen{0, 0, false, api.Send}}, {"!int.end", "!1", seen{1, 0, true, api.End}}, {"!{end}.?int.end", "!{end}", seen{1, 0, false, api.Recv}},
		// Who is to blame at the end has not ended.
		{"end", "!1", seen{0, 1, false, 0}}, {"end", "?1", seen{0, 2, false, 0}}, {"!int.end", "!1; !1", seen{1, 1, false, 0}}, {"!int.end", "!1; ?1; !1", seen{1, 2, false, 0}}, {"!int.?int.end", "!1; ?true; ?1", seen{1, 2, false, 0}}, {"!int.?int.end", "!true; ?true", seen{0, 1, false, 0}},
	} {
		m := begun(t, x.s)
		for _, y := range each(x.events) {
			m.Take(event(t, y))
		}
		if got := see(m); got != x.want || see(m) != got {
			t.Errorf("%s, %s: %v, want %v", x.s, x.events, got, x.want)
		}
	}
}

func TestP23Long(t *testing.T) {
	m := begun(t, "rec t.!int."+strings.Repeat("?int.", 56)+"+{a:t}")
	word := append([]string{"!1"}, strings.Fields(strings.Repeat("?1 ", 56)+"+a")...)
	for k := range 20000 {
		if v, e := m.Take(event(t, word[k%len(word)])); v != 0 || e != api.OK {
			t.Fatalf("%d: %d, %d", k, v, e)
		}
	}
	if n, v, ended := m.State(); n != 20000 || v != 0 || ended {
		t.Errorf("%d, %d, %v", n, v, ended)
	}
}

// TestP1NotMadeByNew: it does not panic.
func TestP1NotMadeByNew(t *testing.T) {
	for _, x := range []string{"!1", "?1", "!{end}", "?{end}", "+a", "&a"} {
		var m monitor.Monitor
		m.State()
		m.Next()
		if v, e := m.Take(event(t, x)); v == 0 || e != api.OK {
			t.Errorf("Take(%s) = %d, %d", x, v, e)
		}
	}
}
