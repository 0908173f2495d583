package graph

import "duet/api"

// doing is what a node does itself, and in which classes the nodes in its To are. (What a list has less than six of is 0 or empty: how many it has hangs on kind and labels.)
type doing struct {
	kind, sort int
	labels     [api.MaxLabels]string
	next       [api.MaxLabels]int
}

// least has one node of each class that is reached, in the order in which they are.
func least(g []api.Node) []api.Node {
	class := classes(g)
	numbers := make([]int, len(g)) // of classes, from 1 on: 0 of one that has none yet
	var reached []int
	reach := func(node int) int {
		of := class[node]
		if numbers[of] == 0 {
			reached = append(reached, node)
			numbers[of] = len(reached)
		}
		return numbers[of] - 1
	}
	reach(0)
	var out []api.Node
	for len(out) < len(reached) {
		n := g[reached[len(out)]]
		made := api.Node{Kind: n.Kind, Sort: n.Sort, Labels: copied(n.Labels)}
		for _, to := range n.To {
			made.To = append(made.To, reach(to))
		}
		out = append(out, made)
	}
	return out
}

// classes says of each node in which class it is: those of one class do the same. At first all are in one, which is split until all that are together do what leads to the same classes.
func classes(g []api.Node) []int {
	class, count := make([]int, len(g)), 1
	for {
		finer, more := split(g, class)
		if more == count {
			return finer
		}
		class, count = finer, more
	}
}

// split puts those nodes into one class that do the same themselves, and lead to the same classes; it says also how many classes there are.
func split(g []api.Node, class []int) ([]int, int) {
	finer := make([]int, len(g))
	numbers := map[doing]int{}
	for i, n := range g {
		d := doingOf(n, class)
		number, known := numbers[d]
		if !known {
			number = len(numbers)
			numbers[d] = number
		}
		finer[i] = number
	}
	return finer, len(numbers)
}

func doingOf(n api.Node, class []int) doing {
	d := doing{kind: n.Kind, sort: n.Sort}
	copy(d.labels[:], n.Labels)
	for i, to := range n.To {
		d.next[i] = class[to]
	}
	return d
}
