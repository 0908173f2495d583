package code

import (
	"strings"

	"duet/api"
	"duet/exprs"
)

// instruction is a process of a program, without Kids: their places in the list are in their stead.
type instruction struct {
	api.Proc
	kids []int
}

// lay a process at the end of the list, ahead of its Kids; its place is answered.
func (c *Code) lay(p api.Proc) int {
	place := len(c.list)
	c.list = append(c.list, instruction{Proc: withoutKids(p)})
	kids := make([]int, len(p.Kids))
	for i, kid := range p.Kids {
		kids[i] = c.lay(kid)
	}
	c.list[place].kids = kids
	return place
}

// withoutKids is a copy in new memory. Nor has it the Type, which is of no account any more when check.Check has passed it.
func withoutKids(p api.Proc) api.Proc {
	alone := api.Proc{Kind: p.Kind, Chan: strings.Clone(p.Chan), Name: strings.Clone(p.Name), Label: strings.Clone(p.Label), Expr: folded(p.Expr), Names: copied(p.Names), Labels: copied(p.Labels)}
	for _, x := range p.Exprs {
		alone.Exprs = append(alone.Exprs, folded(x))
	}
	return alone
}

// folded is in new memory too; what hangs on no name in it is reckoned once, and not in each run. Where there is no expression it is none.
func folded(x api.Expr) api.Expr {
	y, _ := exprs.Fold(x)
	return y
}

func copied(names []string) []string {
	out := make([]string, len(names))
	for i, name := range names {
		out[i] = strings.Clone(name)
	}
	return out
}
