package syntax

import (
	"duet/api"
	"duet/exprs"
	"duet/words"
)

// keyword is that with which a kind begins; the empty text of a Call, which begins with a name, and of what is no kind.
func keyword(kind int) string {
	switch kind {
	case api.Stop:
		return "stop"
	case api.PSend:
		return "send"
	case api.PRecv:
		return "recv"
	case api.PGive:
		return "give"
	case api.PTake:
		return "take"
	case api.PPick:
		return "pick"
	case api.PCase:
		return "case"
	case api.PEnd:
		return "end"
	case api.Spawn:
		return "spawn"
	case api.If:
		return "if"
	case api.Let:
		return "let"
	case api.Print:
		return "print"
	}
	return ""
}

// kindOf says which kind begins with that word: it is a Call where no other one does.
func kindOf(word string) int {
	kind := api.Stop
	for kind < api.Call && keyword(kind) != word {
		kind++
	}
	return kind
}

// fields are those that a process of a kind has, beside its Kids.
type fields int

const (
	hasChan fields = 1 << iota
	hasName
	hasLabel
	hasExpr
	hasExprs
	hasNames
	hasType
	hasLabels
)

func (f fields) have(one fields) bool { return f&one != 0 }

func fieldsOf(kind int) fields {
	switch kind {
	case api.PSend:
		return hasChan | hasExpr
	case api.PRecv, api.PGive, api.PTake:
		return hasChan | hasName
	case api.PPick:
		return hasChan | hasLabel
	case api.PCase:
		return hasChan | hasLabels
	case api.PEnd:
		return hasChan
	case api.Spawn:
		return hasChan | hasType | hasNames
	case api.If, api.Print:
		return hasExpr
	case api.Let:
		return hasName | hasExpr
	case api.Call:
		return hasName | hasExprs | hasNames
	}
	return 0
}

// kidsOf says how many Kids a process must have.
func kidsOf(p api.Proc) int {
	switch p.Kind {
	case api.Stop, api.Call:
		return 0
	case api.Spawn, api.If:
		return 2
	case api.PCase:
		return len(p.Labels)
	}
	return 1
}

// isPart says whether a process has just what its kind has: it looks neither into Kids nor at expressions and types that it must have, of which their Checks say more.
func isPart(p api.Proc) bool {
	if p.Kind < api.Stop || p.Kind > api.Call || len(p.Kids) != kidsOf(p) {
		return false
	}
	its := fieldsOf(p.Kind)
	return fits(its.have(hasChan), exprs.IsName(p.Chan), p.Chan == "") &&
		fits(its.have(hasName), isNameOf(p), p.Name == "") &&
		fits(its.have(hasLabel), exprs.IsName(p.Label), p.Label == "") &&
		fits(its.have(hasExpr), true, isNoExpr(p.Expr)) &&
		fits(its.have(hasExprs), len(p.Exprs) <= maxNames, len(p.Exprs) == 0) &&
		fits(its.have(hasNames), areNames(p.Names), len(p.Names) == 0) &&
		fits(its.have(hasType), true, isNoType(p.Type)) &&
		fits(its.have(hasLabels), words.AreLabels(p.Labels), len(p.Labels) == 0)
}

// fits says whether a field is right, if it is had, and empty, if it is not.
func fits(had, right, empty bool) bool {
	if had {
		return right
	}
	return empty
}

func isNameOf(p api.Proc) bool {
	if p.Kind == api.Call {
		return IsProc(p.Name)
	}
	return exprs.IsName(p.Name)
}

func isNoExpr(x api.Expr) bool {
	return x.Kind == 0 && x.Name == "" && x.Value == (api.Value{}) && len(x.Kids) == 0
}

func isNoType(t api.Type) bool {
	return t.Kind == 0 && t.Sort == 0 && t.Name == "" && len(t.Labels) == 0 && len(t.Kids) == 0
}
