package project_test

import (
	"reflect"
	"strings"
	"testing"

	"duet/api"
	"duet/project"
)

// wantMerged looks at both orders; want is `no` where they can't be merged.
func wantMerged(t *testing.T, a, b api.Local, want string) {
	t.Helper()
	for _, pair := range [][2]api.Local{{a, b}, {b, a}} {
		l, e := project.Merge(pair[0], pair[1])
		w := "no"
		if e == api.OK {
			r := &reader{want}
			if w = want; plain(r.local()) != plain(l) {
				w = plain(l)
			}
		} else if e != api.ErrNone || !reflect.DeepEqual(l, api.Local{}) {
			t.Errorf("Merge: %v, %d", l, e)
		}
		if w != want {
			t.Errorf("Merge(%s, %s): %s, want %s", plain(pair[0]), plain(pair[1]), w, want)
		}
	}
}

func TestP39Merge(t *testing.T) {
	const abc, def = "a:end,b:end,c:end", "d:end,e:end,f:end"
	for _, x := range []struct{ a, b, want string }{
		{"end", "end", "end"}, {"b!int.end", "b!int.end", "b!int.end"}, {"rec x.b?int.x", "rec x.b?int.x", "rec x.b?int.x"}, {"rec x.end", "rec x.end", "rec x.end"},
		// Of another kind, role, sort, name.
		{"end", "b!int.end", "no"}, {"end", "b?int.end", "no"}, {"end", "b&{a:end}", "no"}, {"end", "b+{a:end}", "no"}, {"end", "rec x.end", "no"}, {"b!int.end", "b?int.end", "no"}, {"b!int.end", "b+{a:end}", "no"}, {"b?int.end", "b&{a:end}", "no"}, {"b+{a:end}", "b&{a:end}", "no"},
		{"b!int.end", "a!int.end", "no"}, {"b?int.end", "c?int.end", "no"}, {"b!int.end", "b!bool.end", "no"}, {"b?int.end", "b?text.end", "no"}, {"rec x.end", "rec y.end", "no"}, {"rec x.b!int.x", "rec y.b!int.y", "no"}, {"rec x.b!int.x", "b!int.rec x.b!int.x", "no"}, {"rec x.b!int.x", "rec x.b!int.end", "no"}, {"rec x.rec y.b!int.x", "rec x.rec y.b!int.y", "no"},
		{"rec x.rec x.b!int.x", "rec x.b!int.x", "no"},
		// Picks have the same labels, offers may have others.
		{"b+{a:end}", "b+{a:end}", "b+{a:end}"}, {"b+{a:end}", "b+{b:end}", "no"}, {"b+{a:end}", "b+{a:end,b:end}", "no"}, {"b+{a:end,b:end}", "b+{a:end,c:end}", "no"}, {"b+{a:end}", "c+{a:end}", "no"}, {"b+{a:end}", "b+{a:b!int.end}", "no"},
		{"b&{a:end}", "b&{a:end}", "b&{a:end}"}, {"b&{a:end}", "b&{b:end}", "b&{a:end,b:end}"}, {"b&{a:end}", "b&{a:end,b:b!int.end}", "b&{a:end,b:b!int.end}"}, {"b&{a:end,c:end}", "b&{b:end,d:end}", "b&{a:end,b:end,c:end,d:end}"}, {"b&{a:end,b:end}", "b&{b:end,c:end}", "b&{a:end,b:end,c:end}"}, {"b&{b:end}", "b&{a:b?int.end,aa:end}", "b&{a:b?int.end,aa:end,b:end}"},
		{"b&{a:end}", "c&{a:end}", "no"}, {"b&{a:end}", "c&{b:end}", "no"}, {"b&{a:end}", "b&{a:b!int.end}", "no"}, {"b&{a:end,b:end}", "b&{b:b!int.end,c:end}", "no"}, {"b&{z:end}", "b&{end:end}", "b&{end:end,z:end}"},
		// Six labels, and seven.
		{"b&{" + abc + "}", "b&{" + def + "}", "b&{" + abc + "," + def + "}"}, {"b&{" + abc + "," + def + "}", "b&{" + abc + "," + def + "}", "b&{" + abc + "," + def + "}"}, {"b&{" + abc + "," + def + "}", "b&{c:end}", "b&{" + abc + "," + def + "}"},
		{"b&{" + abc + "}", "b&{" + def + ",g:end}", "no"}, {"b&{" + abc + "," + def + "}", "b&{g:end}", "no"}, {"b&{" + abc + "," + def + "}", "b&{c:end,cc:end}", "no"}, {"b!int.b&{" + abc + "," + def + "}", "b!int.b&{g:end}", "no"}, {"b&{a:b&{" + abc + "," + def + "}}", "b&{a:b&{g:end},b:end}", "no"},
		// In Kids.
		{"b!int.b&{a:end}", "b!int.b&{b:end}", "b!int.b&{a:end,b:end}"}, {"b?text.b&{a:end}", "b?text.b&{b:end}", "b?text.b&{a:end,b:end}"}, {"rec x.b&{a:x}", "rec x.b&{b:x}", "rec x.b&{a:x,b:x}"}, {"rec x.b&{a:x}", "rec x.b&{a:end}", "no"}, {"b!int.b&{a:end}", "b!int.c&{b:end}", "no"},
		{"b+{a:end,b:b&{x:end}}", "b+{a:end,b:b&{y:end}}", "b+{a:end,b:b&{x:end,y:end}}"}, {"b+{a:b&{x:end},b:b&{x:end}}", "b+{a:b&{y:end},b:b&{z:end}}", "b+{a:b&{x:end,y:end},b:b&{x:end,z:end}}"}, {"b+{a:end,b:b&{x:end}}", "b+{a:b!int.end,b:b&{y:end}}", "no"},
		{"b&{a:b&{x:end}}", "b&{a:b&{y:end},b:end}", "b&{a:b&{x:end,y:end},b:end}"}, {"b&{a:c!int.c&{x:end},b:end}", "b&{a:c!int.c&{w:end}}", "b&{a:c!int.c&{w:end,x:end},b:end}"}, {"b&{a:b&{x:b!int.end}}", "b&{a:b&{x:end},b:end}", "no"},
		{"rec x.b&{a:x,b:rec y.c&{p:x}}", "rec x.b&{b:rec y.c&{q:y},c:end}", "rec x.b&{a:x,b:rec y.c&{p:x,q:y},c:end}"},
	} {
		wantMerged(t, made(t, x.a), made(t, x.b), x.want)
	}
}

// TestP39MergeOfLargeOnes: nothing but labels limits what comes of two.
func TestP39MergeOfLargeOnes(t *testing.T) {
	row := strings.Repeat("c!int.", 57)
	wantMerged(t, made(t, "b&{a:"+row+"end}"), made(t, "b&{b:"+row+"end}"), "b&{a:"+row+"end,b:"+row+"end}")
	wantMerged(t, made(t, "b&{a:"+row+"end}"), made(t, "b&{a:"+row+"end}"), "b&{a:"+row+"end}")
	wantMerged(t, made(t, row+"b&{a:end}"), made(t, row+"b&{b:end}"), row+"b&{a:end,b:end}")
	wantMerged(t, made(t, row+"b&{a:end}"), made(t, row+"c&{b:end}"), "no")
}

func TestP39MergeTakesEmptyLists(t *testing.T) {
	for _, l := range []api.Local{end(), rec("x", send("b", api.Int, variable("x"))), recv("b", api.Text, end())} {
		full := l
		full.Labels = []string{}
		if full.Kids == nil {
			full.Kids = []api.Local{}
		}
		w, _ := project.Write(l)
		wantMerged(t, l, full, w)
	}
}

func TestP39MergeOfAllSmallOnes(t *testing.T) {
	list := right(4)
	well, grown := 0, 0
	for _, a := range list {
		for _, b := range list {
			want, ok := together(placesOf(a), placesOf(b))
			l, e := project.Merge(a, b)
			if !ok && (e != api.ErrNone || !reflect.DeepEqual(l, api.Local{})) || ok && (e != api.OK || !reflect.DeepEqual(placesOf(l), want)) {
				t.Fatalf("Merge(%s, %s): %s, %d, want %v, %v", plain(a), plain(b), plain(l), e, want, ok)
			}
			if ok {
				well++
				if project.Check(l) != api.OK {
					t.Fatalf("Merge(%s, %s): %s", plain(a), plain(b), plain(l))
				}
			}
			if ok && plain(l) != plain(a) && plain(l) != plain(b) {
				grown++
			}
		}
	}
	if well < len(list) || grown < 20 {
		t.Errorf("too few: %d of %d, %d", well, len(list), grown)
	}
}
