package exprs

import (
	"strings"

	"duet/api"
	"duet/pieces"
	"duet/values"
)

// Parse: P7.
func Parse(s string) (x api.Expr, f api.Fault) {
	f = pieces.Read(s, " ", 0, func(r *pieces.Reader) {
		whole := expression(r, 1)
		r.Finish()
		x = checked(whole)
	})
	return x, f
}

// Begin: P7.
func Begin(s string, at int) (x api.Expr, end int, f api.Fault) {
	f = pieces.Read(s, " ", at, func(r *pieces.Reader) {
		x, end = checked(expression(r, 1)), r.At()
	})
	return x, end, f
}

// checked throws what is to be told when all has been read: there can be too many parts, and nothing else.
func checked(x api.Expr) api.Expr {
	if e := Check(x); e != api.OK {
		panic(api.Fault{Code: e, At: 0})
	}
	return x
}

// expression takes operators of two of that level at least: the others belong to what is around it.
func expression(r *pieces.Reader, least int) api.Expr {
	x := operand(r)
	for {
		op := operatorAhead(r.Rest())
		if level(op) < least {
			return x
		}
		r.Pass(len(op))
		x = operation(op, x, expression(r, level(op)+1))
	}
}

// operatorAhead is the operator of two with which s begins, or the empty text.
func operatorAhead(s string) string {
	switch pieces.Leading(s, pieces.Letters) {
	case "or":
		return "or"
	case "and":
		return "and"
	}
	// The longer signs first: they begin with shorter ones.
	for _, op := range [...]string{"==", "<=", "++", "<", "+", "-", "*", "/", "%"} {
		if strings.HasPrefix(s, op) {
			return op
		}
	}
	return ""
}

// operand is all that may stand beside an operator of two without brackets.
func operand(r *pieces.Reader) api.Expr {
	s := r.Rest()
	switch {
	case strings.HasPrefix(s, "("):
		return brackets(r)
	case strings.HasPrefix(s, "#"):
		return ofOne(r, "#", 1)
	case strings.HasPrefix(s, `"`):
		return value(r, quotedAhead(s))
	case numberAhead(s) != "":
		return value(r, numberAhead(s))
	case strings.HasPrefix(s, "-"):
		return ofOne(r, "neg", 1)
	}
	return word(r, r.Word())
}

func brackets(r *pieces.Reader) api.Expr {
	r.Need("(")
	x := expression(r, 1)
	r.Need(")")
	return x
}

// ofOne reads an operator of one that is written with so many bytes.
func ofOne(r *pieces.Reader, op string, size int) api.Expr {
	r.Pass(size)
	return operation(op, operand(r))
}

func value(r *pieces.Reader, piece string) api.Expr {
	v, e := values.Read(piece)
	if e != api.OK {
		panic(r.Fault(e))
	}
	r.Pass(len(piece))
	return literal(v)
}

// word also stands where there are no letters: the empty word is no name.
func word(r *pieces.Reader, piece string) api.Expr {
	switch {
	case piece == "true" || piece == "false":
		return value(r, piece)
	case piece == "not":
		return ofOne(r, "not", len(piece))
	case !IsName(piece):
		panic(r.Fault(api.ErrSyntax))
	}
	r.Pass(len(piece))
	return api.Expr{Kind: api.Name, Name: strings.Clone(piece)}
}

// numberAhead is the sign, if any, and all digits with which s begins; the empty text without digits.
func numberAhead(s string) string {
	sign := 0
	if strings.HasPrefix(s, "-") {
		sign = 1
	}
	digits := len(pieces.Leading(s[sign:], pieces.Digits))
	if digits == 0 {
		return ""
	}
	return s[:sign+digits]
}

// quotedAhead goes to the mark that ends the text with which s begins; if none does it is all of s, which is no value.
func quotedAhead(s string) string {
	for i := 1; i < len(s); i++ {
		switch s[i] {
		case '"':
			return s[:i+1]
		case '\\':
			i++
		}
	}
	return s
}
