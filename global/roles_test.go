package global_test

import (
	"math/rand"
	"reflect"
	"regexp"
	"slices"
	"strings"
	"testing"

	"duet/api"
	"duet/global"
)

func TestP36Roles(t *testing.T) {
	for s, want := range map[string]string{
		"end": "", "rec t.end": "", "a>b:int.end": "a b", "b>a:int.end": "a b", "h>a:int.end": "a h", "a>b:int.b>a{no:end,yes:end}": "a b", "rec x.a>b:int.b>a{no:end,yes:b>c:bool.x}": "a b c",
		"g>h{a:end,b:e>f:int.end,c:c>d{a:b>a:int.end}}": "a b c d e f g h", "rec h.a>b{a:h,b:c>b:text.h}": "a b c", "c>d:int.d>c:int.c>d:int.end": "c d", "a>b{c:end,d:end}": "a b", "rec c.rec d.a>b:int.c": "a b",
	} {
		l, e := global.Roles(parsed(t, s))
		if strings.Join(l, " ") != want || e != api.OK {
			t.Errorf("Roles(%s): %q, %d", s, l, e)
		}
	}
}

func TestP36Rename(t *testing.T) {
	for _, x := range []struct{ s, from, to, want string }{
		{"end", "", "", "end"}, {"end", "a", "b", "end"}, {"end", "abcdefgh", "aaaaaaaa", "end"}, {"rec a.b>c:int.a", "a", "d", "rec a.b>c:int.a"}, {"rec a.a>b:int.a", "a", "d", "rec a.d>b:int.a"},
		{"a>b{a:end,b:end}", "ab", "cd", "c>d{a:end,b:end}"}, {"a>b:int.end", "", "", "a>b:int.end"}, {"a>b:int.end", "a", "a", "a>b:int.end"}, {"a>b:int.end", "cd", "aa", "a>b:int.end"},
		// All at once: not one behind the other.
		{"a>b:int.end", "ab", "ba", "b>a:int.end"}, {"a>b:int.b>c:int.c>a:int.end", "abc", "bca", "b>c:int.c>a:int.a>b:int.end"}, {"a>b:int.end", "ab", "bc", "b>c:int.end"}, {"a>b:int.end", "ba", "cb", "b>c:int.end"},
		// Two may become one, where they say nothing to each other.
		{"a>b:int.c>b:bool.end", "c", "a", "a>b:int.a>b:bool.end"}, {"a>b:int.c>d:bool.end", "abcd", "hghg", "h>g:int.h>g:bool.end"}, {"a>b:int.c>d:bool.end", "ac", "dd", "no"},
		{"a>b:int.end", "a", "b", "no"}, {"a>b:int.end", "b", "a", "no"}, {"a>b:int.end", "ab", "cc", "no"}, {"a>b{x:end,y:rec t.c>d{z:t}}", "c", "d", "no"}, {"a>b{x:end,y:rec t.c>d{z:t}}", "cd", "ab", "a>b{x:end,y:rec t.a>b{z:t}}"}, {"a>b:int.b>c:int.end", "c", "a", "a>b:int.b>a:int.end"},
	} {
		h, e := global.Rename(parsed(t, x.s), strings.Split(x.from, ""), strings.Split(x.to, ""))
		if x.want == "no" {
			if !reflect.DeepEqual(h, api.Global{}) || e != api.ErrName {
				t.Errorf("Rename(%s, %s, %s): %v, %d", x.s, x.from, x.to, h, e)
			}
			continue
		}
		if w, _ := global.Write(h); w != x.want || e != api.OK {
			t.Errorf("Rename(%s, %s, %s): %s, %d, want %s", x.s, x.from, x.to, w, e, x.want)
		}
	}
}

func TestP36RenameWantsRoles(t *testing.T) {
	for _, s := range []string{"end", "a>b:int.end", "rec x.c>d{a:x,b:end}"} {
		g := parsed(t, s)
		for _, x := range []struct{ from, to []string }{
			{[]string{"a"}, nil}, {nil, []string{"a"}}, {[]string{"a", "b"}, []string{"a"}}, {[]string{"a"}, []string{"a", "b"}}, {[]string{"c"}, []string{}},
			{[]string{"i"}, []string{"a"}}, {[]string{"a"}, []string{"i"}}, {[]string{""}, []string{"a"}}, {[]string{"a"}, []string{""}}, {[]string{""}, []string{""}}, {[]string{"ab"}, []string{"cd"}}, {[]string{"A"}, []string{"a"}}, {[]string{"a", "b", "x"}, []string{"c", "d", "e"}}, {[]string{"a", "b", "c"}, []string{"c", "d", "\xff"}},
			{[]string{"a", "a"}, []string{"b", "c"}}, {[]string{"a", "a"}, []string{"a", "a"}}, {[]string{"e", "f", "e"}, []string{"e", "f", "e"}}, {[]string{"h", "g", "f", "f"}, []string{"h", "g", "f", "e"}}, {slices.Repeat([]string{"a"}, 100000), slices.Repeat([]string{"b"}, 100000)},
			// Ahead of ErrName.
			{[]string{"a", "c", "a"}, []string{"b", "d", "b"}}, {[]string{"a", "c", "x"}, []string{"b", "d", "a"}}, {[]string{"a", "c"}, []string{"b", "d", "b"}},
		} {
			if h, e := global.Rename(g, x.from, x.to); !reflect.DeepEqual(h, api.Global{}) || e != api.ErrArg {
				t.Errorf("Rename(%s, %.20q, %.20q): %v, %d", s, x.from, x.to, h, e)
			}
		}
	}
}

// lettersOf a text are the roles that are From or To where it is written.
func lettersOf(s string) []string {
	var letters []string
	for _, both := range spoken.FindAllString(s, -1) {
		letters = append(letters, both[:1], both[2:])
	}
	slices.Sort(letters)
	return slices.Compact(letters)
}

var (
	spoken = regexp.MustCompile("[a-h]>[a-h]")
	itself = regexp.MustCompile("a>a|b>b|c>c|d>d|e>e|f>f|g>g|h>h")
)

// TestP36AllSmallOnes holds Roles and Rename against the texts of conversations.
func TestP36AllSmallOnes(t *testing.T) {
	dice := rand.New(rand.NewSource(36))
	renamed, refused := 0, 0
	for parts := 1; parts <= 5; parts++ {
		for _, g := range small(parts) {
			s, e := global.Write(g)
			if e != api.OK {
				continue
			}
			if l, e := global.Roles(g); e != api.OK || !slices.Equal(l, lettersOf(s)) {
				t.Fatalf("Roles(%s): %q, %d", s, l, e)
			}
			for range 5 {
				if wantRenamed(t, g, s, dice) {
					renamed++
				} else {
					refused++
				}
			}
		}
	}
	if renamed < 1000 || refused < 1000 {
		t.Errorf("too few: %d, %d", renamed, refused)
	}
}

// wantRenamed says whether a conversation of that text could be renamed.
func wantRenamed(t *testing.T, g api.Global, s string, dice *rand.Rand) bool {
	t.Helper()
	from, to := shuffled(dice)
	instead := strings.NewReplacer(pairs(from, to)...)
	want := spoken.ReplaceAllStringFunc(s, instead.Replace)
	h, e := global.Rename(g, from, to)
	if itself.MatchString(want) {
		if e != api.ErrName || !reflect.DeepEqual(h, api.Global{}) {
			t.Fatalf("Rename(%s, %q, %q): %v, %d, want ErrName", s, from, to, h, e)
		}
		return false
	}
	if w, _ := global.Write(h); w != want || e != api.OK {
		t.Fatalf("Rename(%s, %q, %q): %s, %d, want %s", s, from, to, w, e, want)
	}
	return true
}

// shuffled is some of the roles, and for each of them any.
func shuffled(dice *rand.Rand) (from, to []string) {
	for _, k := range dice.Perm(8)[:dice.Intn(9)] {
		from = append(from, "abcdefgh"[k:k+1])
		other := dice.Intn(8)
		to = append(to, "abcdefgh"[other:other+1])
	}
	return from, to
}

func pairs(from, to []string) []string {
	var out []string
	for i := range from {
		out = append(out, from[i], to[i])
	}
	return out
}
