package project_test

import (
	"reflect"
	"regexp"
	"slices"
	"strings"
	"testing"

	"duet/api"
	"duet/global"
	"duet/project"
	"duet/types"
)

// with is a role ahead of a sign, where it is written what a role does.
var with = regexp.MustCompile("[a-h]([!?+&])")

// wantType holds Type against the texts of both, and says whether it is with one role at most.
func wantType(t *testing.T, l api.Local) bool {
	t.Helper()
	s, _ := project.Write(l)
	var roles []string
	for _, both := range with.FindAllString(s, -1) {
		roles = append(roles, both[:1])
	}
	slices.Sort(roles)
	y, e := project.Type(l)
	if len(slices.Compact(roles)) > 1 {
		if e != api.ErrNone || !reflect.DeepEqual(y, api.Type{}) {
			t.Fatalf("Type(%s): %v, %d, want ErrNone", s, y, e)
		}
		return false
	}
	w, wrong := types.Write(y)
	if want := with.ReplaceAllString(s, "$1"); e != api.OK || wrong != api.OK || w != want {
		t.Fatalf("Type(%s): %q, %d, want %q", s, w, e, want)
	}
	return true
}

func TestP39Type(t *testing.T) {
	for s, want := range map[string]string{
		"end": "end", "rec t.end": "rec t.end", "rec t.rec s.end": "rec t.rec s.end", "a!int.end": "!int.end", "h?text.h!bool.end": "?text.!bool.end", "b+{a:end,b:b?int.end}": "+{a:end,b:?int.end}", "b&{a:b+{c:end},b:end}": "&{a:+{c:end},b:end}",
		"rec x.b!int.x": "rec x.!int.x", "rec a.a!int.a": "rec a.!int.a", "rec x.c&{go:x,no:rec y.c?bool.y}": "rec x.&{go:x,no:rec y.?bool.y}", "b&{a:end,b:end,c:end,d:end,e:end,f:end}": "&{a:end,b:end,c:end,d:end,e:end,f:end}",
		"a!int.b!int.end": "", "a!int.b?int.end": "", "a?int.b+{a:end}": "", "a&{a:end,b:end,c:b?int.end}": "", "a&{a:b!int.end,b:end}": "", "a!int.a!int.a!int.b!int.a!int.end": "", "rec x.a!int.b!int.x": "", "a!int.b!int.c!int.end": "", "a!int.b!int.a!int.b!int.end": "", "rec x.a+{a:x,b:a!int.b&{c:end}}": "",
		strings.Repeat("a!int.", 59) + "end": strings.Repeat("!int.", 59) + "end", strings.Repeat("a!int.", 58) + "b!int.end": "",
	} {
		y, e := project.Type(made(t, s))
		w, _ := types.Write(y)
		if wantErr := map[bool]api.Errno{true: api.ErrNone}[want == ""]; w != want || e != wantErr {
			t.Errorf("Type(%s): %q, %d, want %q", s, w, e, want)
		}
		if want == "" && !reflect.DeepEqual(y, api.Type{}) {
			t.Errorf("Type(%s): %v", s, y)
		}
	}
}

func TestP39TypeOfAllSmallOnes(t *testing.T) {
	one, more := 0, 0
	for _, l := range right(5) {
		if wantType(t, l) {
			one++
		} else {
			more++
		}
	}
	if one < 300 || more < 300 {
		t.Errorf("too few: %d, %d", one, more)
	}
}

// TestP39TypeOfTwo: of a conversation of two roles each has a type.
func TestP39TypeOfTwo(t *testing.T) {
	for s, want := range map[string][2]string{
		"a>b:int.b>a:bool.end": {"!int.?bool.end", "?int.!bool.end"}, "rec x.a>b{go:b>a:int.x,no:end}": {"rec x.+{go:?int.x,no:end}", "rec x.&{go:!int.x,no:end}"}, "end": {"end", "end"},
	} {
		for i, role := range []string{"a", "b"} {
			g, _ := global.Parse(s)
			l, _ := project.Of(g, role)
			y, e := project.Type(l)
			if w, _ := types.Write(y); w != want[i] || e != api.OK {
				t.Errorf("Type of %s in %s: %q, %d, want %q", role, s, w, e, want[i])
			}
		}
	}
}
