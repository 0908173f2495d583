package exprs

import (
	"strings"

	"duet/api"
	"duet/values"
)

// Parse: P7.
func Parse(s string) (x api.Expr, f api.Fault) {
	x, _, f = read(s, 0, true)
	return x, f
}

// Begin: P7.
func Begin(s string, at int) (x api.Expr, end int, f api.Fault) {
	return read(s, min(max(at, 0), len(s)), false)
}

// read is where a reading begins: a fault that is thrown at any of its pieces comes down here.
func read(s string, at int, whole bool) (x api.Expr, end int, f api.Fault) {
	defer func() {
		if thrown := recover(); thrown != nil {
			x, end, f = api.Expr{}, 0, thrown.(api.Fault)
		}
	}()
	if len(s) > api.MaxSource {
		panic(api.Fault{Code: api.ErrLarge, At: 0})
	}
	r := reader{text: s, at: at}
	r.pass(0)
	x = r.expression(1)
	if whole && r.rest() != "" {
		panic(r.fault(api.ErrSyntax))
	}
	// Of what has been read Check can say only that it has too many parts.
	if e := Check(x); e != api.OK {
		panic(api.Fault{Code: e, At: 0})
	}
	return x, r.at, api.Fault{}
}

// reader of a text: at is where the next piece begins, behind blanks.
type reader struct {
	text string
	at   int
}

// rest begins with the next piece.
func (r *reader) rest() string { return r.text[r.at:] }

// pass goes over a piece of so many bytes, and the blanks behind it.
func (r *reader) pass(size int) {
	r.at += size
	r.at += len(leading(r.rest(), isBlank))
}

// fault at the next piece: what can't go on must not have passed it.
func (r *reader) fault(code api.Errno) api.Fault { return api.Fault{Code: code, At: r.at} }

// expression takes operators of two of that level at least: the others belong to what is around it.
func (r *reader) expression(least int) api.Expr {
	x := r.operand()
	for {
		op := operatorAhead(r.rest())
		if level(op) < least {
			return x
		}
		r.pass(len(op))
		x = operation(op, x, r.expression(level(op)+1))
	}
}

// operatorAhead is the operator of two with which s begins, or the empty text.
func operatorAhead(s string) string {
	switch leading(s, isLetter) {
	case "or":
		return "or"
	case "and":
		return "and"
	}
	// The longer signs first: they begin with shorter ones.
	for _, op := range [...]string{"==", "<=", "++", "<", "+", "-", "*", "/", "%"} {
		if strings.HasPrefix(s, op) {
			return op
		}
	}
	return ""
}

// operand is all that may stand beside an operator of two without brackets.
func (r *reader) operand() api.Expr {
	s := r.rest()
	switch {
	case strings.HasPrefix(s, "("):
		return r.brackets()
	case strings.HasPrefix(s, "#"):
		return r.ofOne("#", 1)
	case strings.HasPrefix(s, `"`):
		return r.value(quotedAhead(s))
	case numberAhead(s) != "":
		return r.value(numberAhead(s))
	case strings.HasPrefix(s, "-"):
		return r.ofOne("neg", 1)
	}
	return r.word(leading(s, isLetter))
}

func (r *reader) brackets() api.Expr {
	r.pass(1)
	x := r.expression(1)
	if !strings.HasPrefix(r.rest(), ")") {
		panic(r.fault(api.ErrSyntax))
	}
	r.pass(1)
	return x
}

// ofOne reads an operator of one that is written with so many bytes.
func (r *reader) ofOne(op string, size int) api.Expr {
	r.pass(size)
	return operation(op, r.operand())
}

func (r *reader) value(piece string) api.Expr {
	v, e := values.Read(piece)
	if e != api.OK {
		panic(r.fault(e))
	}
	r.pass(len(piece))
	return literal(v)
}

// word also stands where there are no letters: the empty word is no name.
func (r *reader) word(piece string) api.Expr {
	switch {
	case piece == "true" || piece == "false":
		return r.value(piece)
	case piece == "not":
		return r.ofOne("not", len(piece))
	case !IsName(piece):
		panic(r.fault(api.ErrSyntax))
	}
	r.pass(len(piece))
	return api.Expr{Kind: api.Name, Name: strings.Clone(piece)}
}

// numberAhead is the sign, if any, and all digits with which s begins; the empty text without digits.
func numberAhead(s string) string {
	sign := 0
	if strings.HasPrefix(s, "-") {
		sign = 1
	}
	digits := len(leading(s[sign:], isDigit))
	if digits == 0 {
		return ""
	}
	return s[:sign+digits]
}

// quotedAhead goes to the mark that ends the text with which s begins; if none does it is all of s, which is no value.
func quotedAhead(s string) string {
	for i := 1; i < len(s); i++ {
		switch s[i] {
		case '"':
			return s[:i+1]
		case '\\':
			i++
		}
	}
	return s
}

// leading is what s has of such bytes ahead of any other.
func leading(s string, such func(byte) bool) string {
	for i := range len(s) {
		if !such(s[i]) {
			return s[:i]
		}
	}
	return s
}

func isBlank(c byte) bool { return c == ' ' }

func isDigit(c byte) bool { return '0' <= c && c <= '9' }

func isLetter(c byte) bool { return 'a' <= c && c <= 'z' }
