package graph

import (
	"strconv"
	"strings"

	"duet/api"
)

// maxDoings of the ways that are counted.
const maxDoings = 200

// A count is at most 6^200 (six labels, maxDoings times), which has 156 digits.
const (
	groups      = 9
	groupDigits = 18
	groupBound  = 1_000_000_000_000_000_000 // ten to groupDigits
)

// count of ways: its decimal digits in groups, the lowest first. (Two groups and what is carried are less than 2^64.)
type count [groups]uint64

func (c count) plus(d count) count {
	carried := uint64(0)
	for i := range c {
		sum := c[i] + d[i] + carried
		c[i], carried = sum%groupBound, sum/groupBound
	}
	return c
}

func (c count) decimal() string {
	var all string
	for _, group := range c {
		digits := strconv.FormatUint(group, 10)
		all = strings.Repeat("0", groupDigits-len(digits)) + digits + all
	}
	if digits := strings.TrimLeft(all, "0"); digits != "" {
		return strings.Clone(digits)
	}
	return "0"
}

// countWays of k doings from node 0 to an End.
func countWays(g []api.Node, k int) count {
	ways := make([]count, len(g)) // from each node, of as many doings as have been looked at
	for i, n := range g {
		if n.Kind == api.End {
			ways[i] = count{1}
		}
	}
	for range k {
		ways = longer(g, ways)
	}
	return ways[0]
}

// longer counts the ways that have one doing more.
func longer(g []api.Node, ways []count) []count {
	out := make([]count, len(g))
	for i, n := range g {
		for _, to := range next(n) {
			out[i] = out[i].plus(ways[to])
		}
	}
	return out
}

// next has a node for each way to do something: nobody goes on in what is carried.
func next(n api.Node) []int {
	if n.Kind == api.Give || n.Kind == api.Take {
		return n.To[1:]
	}
	return n.To
}
