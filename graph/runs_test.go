package graph_test

import (
	"math"
	"math/big"
	"strconv"
	"testing"

	"duet/api"
	"duet/graph"
)

func TestP16Runs(t *testing.T) {
	for s, want := range map[string][]string{
		"end":                         {"1", "0", "0"},
		"rec t.end":                   {"1", "0"},
		"!int.end":                    {"0", "1", "0"},
		"?text.?bool.end":             {"0", "0", "1", "0"},
		"rec t.!int.t":                {"0", "0", "0", "0"},
		"rec t.+{a:end,b:?int.t}":     {"0", "1", "0", "1", "0", "1"},
		"rec t.+{go:!int.t,no:end}":   {"0", "1", "0", "1", "0", "1"},
		"+{a:end,b:end,c:end}":        {"0", "3", "0"},
		"&{a:end,b:!int.end,c:end}":   {"0", "2", "1", "0"},
		"rec t.&{a:t,b:t,c:end}":      {"0", "1", "2", "4", "8", "16", "32"},
		"rec t.+{a:t,b:end,c:?int.t}": {"0", "1", "1", "2", "3", "5", "8", "13"},
		// Nobody goes on in what is carried, and it does not count.
		"!{end}.!int.end":                  {"0", "0", "1", "0"},
		"!{!int.!int.end}.end":             {"0", "1", "0", "0", "0"},
		"?{end}.rec t.!int.t":              {"0", "0", "0"},
		"?{+{a:end,b:end}}.+{a:end}":       {"0", "0", "1", "0"},
		"rec t.+{a:!{t}.t,b:?{t}.t,c:end}": {"0", "1", "0", "2", "0", "4", "0", "8"},
	} {
		g, _ := graph.Of(parsed(t, s))
		for k, n := range want {
			if got, e := graph.Runs(g, k); e != api.OK || got != n {
				t.Errorf("Runs(%s, %d) = %q, %d, want %s", s, k, got, e, n)
			}
		}
	}
}

func TestP16RunsOfTooManyDoings(t *testing.T) {
	g := []api.Node{choice(api.Pick, "a b", 0, 1), end()}
	for _, k := range []int{-1, 201, 202, math.MaxInt, math.MinInt} {
		if n, e := graph.Runs(g, k); n != "" || e != api.ErrArg {
			t.Errorf("Runs(%d) = %q, %d", k, n, e)
		}
	}
	for k, want := range map[int]string{0: "0", 1: "1", 200: "1"} {
		if n, e := graph.Runs(g, k); n != want || e != api.OK {
			t.Errorf("Runs(%d) = %q, %d", k, n, e)
		}
	}
}

func power(of, to int) string {
	return new(big.Int).Exp(big.NewInt(int64(of)), big.NewInt(int64(to)), nil).String()
}

func TestP16RunsOfManyWays(t *testing.T) {
	loop := []api.Node{choice(api.Offer, "a b c d e f", 0, 0, 0, 0, 0, 1), end()}
	for k := 1; k <= 200; k++ {
		if n, e := graph.Runs(loop, k); e != api.OK || n != power(5, k-1) {
			t.Errorf("Runs(%d) = %s, %d", k, n, e)
		}
	}
	var most []api.Node
	for k := 1; k < 200; k++ {
		most = append(most, choice(api.Pick, "a b c d e f", k, k, k, k, k, k))
	}
	most = append(most, end())
	for k, want := range map[int]string{0: "0", 198: "0", 199: power(6, 199), 200: "0"} {
		if n, e := graph.Runs(most, k); e != api.OK || n != want {
			t.Errorf("Runs(%d) = %s, %d, want %s", k, n, e, want)
		}
	}
	// Ten to ten times k: groups of noughts are written whole.
	var tens []api.Node
	for k := 0; k < 198; k += 2 {
		tens = append(tens, choice(api.Pick, "a b c d e", k+1, k+1, k+1, k+1, k+1), choice(api.Pick, "a b", k+2, k+2))
	}
	for size := 2; size <= 198; size += 2 {
		g := append(append([]api.Node{}, tens[:size]...), end())
		if n, e := graph.Runs(g, size); e != api.OK || n != power(10, size/2) {
			t.Errorf("Runs of %d = %s, %d", size, n, e)
		}
	}
}

// walks goes through all ways, one by one.
func walks(g []api.Node, node, k int) int {
	switch {
	case k == 0 && g[node].Kind == api.End:
		return 1
	case k == 0:
		return 0
	}
	ways := 0
	for i, to := range g[node].To {
		if carries := g[node].Kind == api.Give || g[node].Kind == api.Take; carries && i == 0 {
			continue
		}
		ways += walks(g, to, k-1)
	}
	return ways
}

func TestP16RunsOfAllSmallOnes(t *testing.T) {
	many := append(mixed(500, 8), small(2)...)
	for i, g := range append(many, small(3)...) {
		if i%3 != 0 {
			continue
		}
		least, _ := graph.Least(g)
		for k := range 6 {
			want := strconv.Itoa(walks(g, 0, k))
			if n, e := graph.Runs(g, k); e != api.OK || n != want {
				t.Fatalf("Runs(%s, %d) = %s, %d, want %s", shown(g), k, n, e, want)
			}
			if n, _ := graph.Runs(least, k); n != want {
				t.Fatalf("Runs of the least graph of %s, %d: %s, want %s", shown(g), k, n, want)
			}
		}
	}
}
