package ways_test

import (
	"slices"
	"strings"
	"testing"

	"duet/ways"
)

func TestEachPlaceOnTheFirstOfTheShortestWays(t *testing.T) {
	// From n by "+" to n + 1, by "x" to 2 * n: up to 20.
	s := ways.From(1)
	for k := 0; k < s.Count(); k++ {
		at := s.Place(k)
		for _, next := range []struct {
			word string
			to   int
		}{{"+", at + 1}, {"x", 2 * at}} {
			if next.to <= 20 {
				s.Step(k, next.word, next.to)
			}
		}
	}
	if s.Count() != 20 {
		t.Fatalf("%d places", s.Count())
	}
	found := map[int]string{}
	for k := range s.Count() {
		found[s.Place(k)] = strings.Join(s.To(k), "")
	}
	for place, want := range map[int]string{1: "", 2: "+", 3: "++", 4: "+x", 5: "+x+", 6: "++x", 7: "++x+", 8: "+xx", 16: "+xxx", 19: "+xx+x+", 20: "+x+xx"} {
		if got, known := found[place]; !known || got != want {
			t.Errorf("to %d: %q, want %q", place, got, want)
		}
	}
	if s.To(0) != nil {
		t.Errorf("to where it began: %q", s.To(0))
	}
	if a, b := s.To(5), s.To(5); !slices.Equal(a, b) || &a[0] == &b[0] {
		t.Errorf("%q and %q", a, b)
	}
}
