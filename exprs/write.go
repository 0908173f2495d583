package exprs

import (
	"strings"

	"duet/api"
	"duet/values"
)

// Write: P8.
func Write(x api.Expr) (string, api.Errno) {
	if e := Check(x); e != api.OK {
		return "", e
	}
	return written(x), api.OK
}

func written(x api.Expr) string {
	switch {
	case x.Kind == api.Lit:
		s, _ := values.Write(x.Value)
		return s
	case x.Kind == api.Name:
		return strings.Clone(x.Name)
	case len(x.Kids) == 1:
		return ahead(x.Name) + bracketed(x.Kids[0], tightest)
	}
	// One of the same level needs brackets on the right alone: it is read from the left.
	left, right := bracketed(x.Kids[0], level(x.Name)), bracketed(x.Kids[1], level(x.Name)+1)
	return left + " " + x.Name + " " + right
}

// ahead is what stands ahead of what an operator of one is of.
func ahead(op string) string {
	switch op {
	case "not":
		return "not "
	case "neg":
		return "- "
	}
	return "#"
}

// bracketed puts brackets around an operator of two that holds less tightly than least.
func bracketed(x api.Expr, least int) string {
	if x.Kind == api.Op && len(x.Kids) == 2 && level(x.Name) < least {
		return "(" + written(x) + ")"
	}
	return written(x)
}
