package monitor_test

import (
	"math/rand"
	"slices"
	"strings"
	"testing"

	"duet/api"
	"duet/below"
	"duet/graph"
	"duet/monitor"
	"duet/types"
)

func choice(kind int, labels string, to ...int) api.Node {
	return api.Node{Kind: kind, Labels: strings.Fields(labels), To: to}
}

func nodeOf(r *rand.Rand, size int) api.Node {
	to := func() int { return r.Intn(size) }
	kinds := []int{api.Pick, api.Offer}
	return []api.Node{
		{Kind: api.End}, {Kind: api.Send, Sort: 1 + r.Intn(3), To: []int{to()}}, {Kind: api.Recv, Sort: 1 + r.Intn(3), To: []int{to()}}, {Kind: api.Give, To: []int{to(), to()}}, {Kind: api.Take, To: []int{to(), to()}},
		choice(kinds[r.Intn(2)], "a", to()), choice(kinds[r.Intn(2)], "a b", to(), to()), choice(kinds[r.Intn(2)], "b c", to(), to()), choice(kinds[r.Intn(2)], "a b c d e f", to(), to(), to(), to(), to(), to()),
	}[r.Intn(9)]
}

func typeOf(r *rand.Rand, nodes int) api.Type {
	for {
		size := 1 + r.Intn(nodes)
		var g []api.Node
		for range size {
			g = append(g, nodeOf(r, size))
		}
		if t, e := graph.Back(g); e == api.OK {
			return t
		}
	}
}

// much is a type like another one, with a label less here and there: below or above it, or neither.
func much(r *rand.Rand, t api.Type) api.Type {
	g, _ := graph.Of(t)
	for i, n := range g {
		if len(n.Labels) > 1 && r.Intn(3) == 0 {
			k := r.Intn(len(n.Labels))
			g[i].Labels, g[i].To = slices.Delete(n.Labels, k, k+1), slices.Delete(n.To, k, k+1)
		}
	}
	out, e := graph.Back(g)
	if e != api.OK {
		return t
	}
	return out
}

func valueOf(sort int) api.Value {
	if sort == api.Text {
		return api.Value{Sort: sort, S: "x"}
	}
	return api.Value{Sort: sort, N: 1}
}

// eventAt is one that is often fine where a type, without a rec ahead, is what may be done.
func eventAt(r *rand.Rand, t api.Type) api.Event {
	kind := t.Kind
	if kind == api.End || r.Intn(20) == 0 {
		kind = api.Send + r.Intn(6)
	}
	switch kind {
	case api.Send, api.Recv:
		sort := t.Sort
		if sort == 0 || r.Intn(20) == 0 {
			sort = 1 + r.Intn(3)
		}
		return api.Event{Kind: kind, Value: valueOf(sort)}
	case api.Give, api.Take:
		if t.Kind == kind && r.Intn(10) > 0 {
			return api.Event{Kind: kind, Carry: much(r, t.Kids[0])}
		}
		return api.Event{Kind: kind, Carry: typeOf(r, 2)}
	}
	if len(t.Labels) > 0 && r.Intn(10) > 0 {
		return api.Event{Kind: kind, Label: t.Labels[r.Intn(len(t.Labels))]}
	}
	return api.Event{Kind: kind, Label: string(rune('a' + r.Intn(8)))}
}

// nextOf is what comes next of a type without a rec ahead, if an event is fine there: by the type itself, not by what it does.
func nextOf(t api.Type, x api.Event) (next api.Type, fine bool) {
	if t.Kind != x.Kind {
		return t, false
	}
	switch t.Kind {
	case api.Send, api.Recv:
		return t.Kids[0], x.Value.Sort == t.Sort
	case api.Give, api.Take:
		ok, e := below.Is(x.Carry, t.Kids[0])
		return t.Kids[1], ok && e == api.OK
	}
	for k, label := range t.Labels {
		if label == x.Label {
			return t.Kids[k], true
		}
	}
	return t, false
}

var culprits = map[int]int{api.Send: 1, api.Give: 1, api.Pick: 1, api.Recv: 2, api.Take: 2, api.Offer: 2}

// TestP22OfMany follows types as they are unfolded.
func TestP22OfMany(t *testing.T) {
	r := rand.New(rand.NewSource(8))
	blames, ended, longest := map[int]int{}, 0, 0
	for range 6000 {
		at := typeOf(r, 5)
		m, e := monitor.New(at)
		if e != api.OK {
			t.Fatalf("New(%v): %d", at, e)
		}
		want := seen{}
		for range 12 {
			if at, e = types.Unfold(at); e != api.OK {
				break
			}
			x := eventAt(r, at)
			if want.verdict == 0 {
				next, fine := nextOf(at, x)
				if fine {
					at = next
					want.done++
				} else {
					want.verdict = culprits[x.Kind]
					blames[x.Kind]++
				}
			}
			here, e := types.Unfold(at)
			if e != api.OK {
				break
			}
			want.ended, want.next = here.Kind == api.End && want.verdict == 0, here.Kind
			if want.verdict != 0 {
				want.next = 0
			}
			if v, e := m.Take(x); v != want.verdict || e != api.OK {
				t.Fatalf("Take(%v) = %d, %d, want %d", x, v, e, want.verdict)
			}
			if got := see(m); got != want {
				t.Fatalf("%v behind %v, want %v", got, x, want)
			}
			if want.ended {
				ended++
			}
			longest = max(longest, want.done)
		}
	}
	for kind := api.Send; kind <= api.Offer; kind++ {
		if blames[kind] < 100 {
			t.Errorf("too few: %v", blames)
		}
	}
	if ended < 300 || longest < 12 {
		t.Errorf("too few: %d, %d", ended, longest)
	}
}

// TestP22WhoKeepsToItIsNotToBlame: an end that is used as one of a type that its own is below is never to blame, whatever comes in.
func TestP22WhoKeepsToItIsNotToBlame(t *testing.T) {
	r := rand.New(rand.NewSource(88))
	blamed, fine := 0, 0
	for range 20000 {
		own := typeOf(r, 4)
		used := much(r, own)
		if ok, _ := below.Is(own, used); !ok {
			continue
		}
		m, _ := monitor.New(own)
		at := used
		for range 10 {
			var e api.Errno
			if at, e = types.Unfold(at); e != api.OK || at.Kind == api.End {
				break
			}
			x := asUsed(r, at)
			next, ok := nextOf(at, x)
			v, e := m.Take(x)
			if v == 1 || e != api.OK {
				t.Fatalf("own %v, used as %v: Take(%v) = %d, %d", own, at, x, v, e)
			}
			if v == 2 {
				blamed++
				break
			}
			if !ok {
				break
			}
			at = next
			fine++
		}
	}
	if blamed < 300 || fine < 3000 {
		t.Errorf("too few: %d, %d", blamed, fine)
	}
}

// asUsed is what goes out as the type has it, but anything where something comes in.
func asUsed(r *rand.Rand, t api.Type) api.Event {
	switch t.Kind {
	case api.Send:
		return api.Event{Kind: t.Kind, Value: valueOf(t.Sort)}
	case api.Give:
		return api.Event{Kind: t.Kind, Carry: t.Kids[0]}
	case api.Pick:
		return api.Event{Kind: t.Kind, Label: t.Labels[r.Intn(len(t.Labels))]}
	}
	for {
		if x := eventAt(r, t); culprits[x.Kind] == 2 {
			return x
		}
	}
}

// TestCallsSayWhatTypesCheckSays: of the types in New, of those that are carried in Take.
func TestCallsSayWhatTypesCheckSays(t *testing.T) {
	m := begun(t, "rec t.?{end}.t")
	for i, x := range wrongTypes() {
		_, e := monitor.New(x.t)
		_, f := m.Take(api.Event{Kind: api.Take, Carry: x.t})
		if want := types.Check(x.t); e != want || f != want {
			t.Errorf("%d: %d, %d, want %d", i, e, f, want)
		}
	}
}
