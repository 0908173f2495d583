package syntax

import (
	"strings"

	"duet/api"
	"duet/exprs"
	"duet/types"
	"duet/words"
)

// Write: P26.
func Write(p api.Program) (string, api.Errno) {
	if e := Shape(p); e != api.OK {
		return "", e
	}
	var out strings.Builder
	for _, d := range p.Defs {
		out.WriteString("def " + d.Name + lists(valueTexts(d), chanTexts(d)) + " = ")
		write(&out, d.Body)
		out.WriteString("\n")
	}
	return out.String(), api.OK
}

func valueTexts(d api.Def) []string {
	var texts []string
	for i, name := range d.Values {
		texts = append(texts, name+":"+words.Sort(d.Sorts[i]))
	}
	return texts
}

func chanTexts(d api.Def) []string {
	var texts []string
	for i, name := range d.Chans {
		texts = append(texts, name+":"+typeText(d.Types[i]))
	}
	return texts
}

// lists of what is of values and of what is of ends stand in one pair of brackets.
func lists(ofValues, ofEnds []string) string {
	text := strings.Join(ofValues, ", ")
	if len(ofEnds) > 0 {
		text += "; " + strings.Join(ofEnds, ", ")
	}
	return "(" + text + ")"
}

// Shape has been asked: what Write would tell of an expression is told already.
func exprText(x api.Expr) string {
	s, _ := exprs.Write(x)
	return s
}

func exprTexts(xs []api.Expr) []string {
	var texts []string
	for _, x := range xs {
		texts = append(texts, exprText(x))
	}
	return texts
}

func typeText(t api.Type) string {
	s, _ := types.Write(t)
	return s
}

func write(out *strings.Builder, p api.Proc) {
	out.WriteString(keyword(p.Kind))
	switch p.Kind {
	case api.Stop:
	case api.PCase:
		writeCase(out, p)
	case api.If:
		out.WriteString(" " + exprText(p.Expr) + " ")
		writeBraced(out, p.Kids[0])
		out.WriteString(" else ")
		writeBraced(out, p.Kids[1])
	case api.Call:
		out.WriteString(p.Name + lists(exprTexts(p.Exprs), p.Names))
	default:
		writeStep(out, p)
	}
}

func writeCase(out *strings.Builder, p api.Proc) {
	between := " " + p.Chan + " {"
	for i, label := range p.Labels {
		out.WriteString(between + label + ": ")
		write(out, p.Kids[i])
		between = ", "
	}
	out.WriteString("}")
}

func writeBraced(out *strings.Builder, p api.Proc) {
	out.WriteString("{")
	write(out, p)
	out.WriteString("}")
}

// writeStep is for all kinds behind which one thing comes next.
func writeStep(out *strings.Builder, p api.Proc) {
	switch p.Kind {
	case api.PSend:
		out.WriteString(" " + p.Chan + " " + exprText(p.Expr))
	case api.PRecv, api.PGive, api.PTake:
		out.WriteString(" " + p.Chan + " " + p.Name)
	case api.PPick:
		out.WriteString(" " + p.Chan + " " + p.Label)
	case api.PEnd:
		out.WriteString(" " + p.Chan)
	case api.Spawn:
		out.WriteString(" " + p.Chan + ":" + typeText(p.Type) + " " + lists(p.Names, nil) + " ")
		writeBraced(out, p.Kids[0])
	case api.Let:
		out.WriteString(" " + p.Name + " = " + exprText(p.Expr))
	case api.Print:
		out.WriteString(" " + exprText(p.Expr))
	}
	out.WriteString("; ")
	write(out, p.Kids[len(p.Kids)-1])
}
