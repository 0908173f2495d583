package steps

import (
	"math/rand"
	"slices"
	"strings"
	"testing"

	"duet/api"
	"duet/lives"
)

// looked is P29's moves once more: all processes are looked at, and all that they have.
func looked(r *run) []*process {
	var moves []*process
	for _, p := range r.all {
		if p.At == nil {
			continue
		}
		switch p.At.Kind {
		case api.PRecv, api.PTake, api.PCase:
		case api.PSend, api.PGive, api.PPick:
			if isAwaited(r, p) {
				moves = append(moves, p)
			}
		default:
			moves = append(moves, p)
		}
	}
	return moves
}

// isAwaited says whether who has the other end waits for what p lets out.
func isAwaited(r *run, p *process) bool {
	x := p.Ends[p.At.Chan]
	for _, q := range r.all {
		for name, y := range q.Ends {
			if x.of == y.of && x.side != y.side && q.At != nil && q.At.Chan == name {
				return q.At.Kind == p.At.Kind+1
			}
		}
	}
	return false
}

func TestP29MovesOfMany(t *testing.T) {
	r := rand.New(rand.NewSource(290))
	most, alone, both := 0, 0, 0
	for range 400 {
		p := made(t, r)
		x := begun(p.Defs)
		for {
			moves := looked(x)
			if !slices.Equal(x.movers, moves) {
				t.Fatalf("after %d steps:\n%s", x.steps, text(p))
			}
			if len(moves) == 0 {
				break
			}
			most = max(most, len(moves))
			before, k := x.steps, r.Intn(len(moves))
			needed := 1
			if lives.GoesOut(moves[k].At.Kind) {
				needed, both = 2, both+1
			} else {
				alone++
			}
			x.move(k)
			if x.steps != before+needed {
				t.Fatalf("%d steps at once:\n%s", x.steps-before, text(p))
			}
		}
		for _, q := range x.all {
			if q.At != nil || len(q.Ends) > 0 {
				t.Fatalf("%s is not over:\n%s", q.Name(), text(p))
			}
		}
	}
	if most < 5 || alone < 1000 || both < 1000 {
		t.Errorf("too few: %d at once, %d alone, %d together", most, alone, both)
	}
}

// movesOf a program: behind each move who can move then, till all are over.
func movesOf(p api.Program, picks []int) string {
	r := begun(p.Defs)
	var out []string
	for k := 0; ; k++ {
		var names []string
		for _, q := range r.movers {
			names = append(names, q.Name())
		}
		out = append(out, strings.Join(names, ","))
		if len(r.movers) == 0 {
			return strings.Join(out, " ")
		}
		r.move(lives.Picked(picks, k, len(r.movers)))
	}
}

// TestP29Moves: who sends has the move, in the order in which processes began.
func TestP29Moves(t *testing.T) {
	hello := "def main() = spawn c:!int.end () {send c 7; end c; stop}; recv c x; print x; end c; stop"
	back := "def main() = spawn c:?int.end () {recv c x; end c; stop}; send c 7; end c; stop"
	three := "def main() = spawn c:end () {spawn d:end () {end d; stop}; end d; end c; stop}; spawn e:end () {end e; stop}; end e; end c; stop"
	for _, x := range []struct {
		s     string
		picks []int
		moves string
	}{
		{"def main() = stop", nil, "0 "},
		{hello, nil, "0 0.0 0,0.0 0,0.0 0,0.0 0.0 0.0 "},
		{hello, []int{5, 6, 1, 1, 0}, "0 0.0 0,0.0 0,0.0 0 0 0 "},
		{hello, []int{-1, -1, -2, -1, -1}, "0 0.0 0,0.0 0,0.0 0,0.0 0,0.0 0.0 "},
		{hello, []int{-7, -7, -6, -6}, "0 0.0 0,0.0 0,0.0 0 0 0 "},
		{back, nil, "0 0 0,0.0 0,0.0 0.0 0.0 "},
		{back, []int{0, 0, 1, 1}, "0 0 0,0.0 0,0.0 0 0 "},
		// The child of 0.0 began behind 0's second one, or ahead of it.
		{three, nil, "0 0,0.0 0,0.0,0.1 0,0.0,0.1 0,0.0,0.1 0.0,0.1 0.0,0.1,0.0.0 0.0,0.1,0.0.0 0.0,0.1,0.0.0 0.1,0.0.0 0.1,0.0.0 0.0.0 0.0.0 "},
		{three, []int{0, 1, 0, 3, 3, 2, 2}, "0 0,0.0 0,0.0,0.0.0 0,0.0,0.0.0,0.1 0,0.0,0.0.0,0.1 0,0.0,0.0.0 0,0.0,0.0.0 0,0.0 0,0.0 0,0.0 0.0 0.0 0.0 "},
	} {
		if got := movesOf(parsed(t, x.s), x.picks); got != x.moves {
			t.Errorf("%s, %v\n\t%q, want\n\t%q", x.s, x.picks, got, x.moves)
		}
	}
}
