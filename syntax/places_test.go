package syntax_test

import (
	"math/rand"
	"slices"
	"strings"
	"testing"

	"duet/api"
	"duet/exprs"
	"duet/syntax"
	"duet/types"
)

// tokens of which texts are made; the last ones can stand nowhere, or at few places.
var tokens = []string{
	"def", "stop", "send", "recv", "give", "take", "pick", "case", "end", "spawn", "if", "else", "let", "print", "a", "b", "int", "text",
	"(", ")", "{", "}", ":", ";", ",", "=", "5", "*", "not", "and", "true", "\n", "!int.end", "abcdefghi", ".", "\t",
}

// places is a second reader, that knows by what stands ahead alone which tokens may follow, with no tree: todo is what must come, the next one last.
type places struct {
	todo   []string
	labels []string // of each case that is open the last one
	free   bool     // a type has been read that has a free name
}

// later puts what must come ahead of what was to come.
func (s *places) later(todo ...string) bool {
	slices.Reverse(todo)
	s.todo = append(s.todo, todo...)
	return true
}

// isOver says whether the text may end here: what has begun of an expression may go on, but need not.
func (s *places) isOver() bool {
	for len(s.todo) > 0 && s.todo[len(s.todo)-1] == "operator" {
		s.todo = s.todo[:len(s.todo)-1]
	}
	return len(s.todo) == 0
}

// take says whether a token may stand there.
func (s *places) take(token string) bool {
	if len(s.todo) == 0 {
		return token == "\n" || s.later("definition") && s.take(token)
	}
	next := s.todo[len(s.todo)-1]
	if token == "\n" && next != "operator" {
		return next != "inner" && next != "close"
	}
	s.todo = s.todo[:len(s.todo)-1]
	switch next {
	case "operator":
		if token == "*" || token == "and" {
			return s.later("inner")
		}
		return s.take(token)
	case "expression", "inner":
		return s.operand(token)
	case "close":
		return token == ")"
	case "name":
		return exprs.IsName(token)
	case "process":
		return s.process(token)
	}
	return s.list(next, token)
}

func (s *places) operand(token string) bool {
	switch {
	case token == "(":
		return s.later("inner", "close", "operator")
	case token == "not":
		return s.later("inner")
	}
	return s.later("operator") && (token == "5" || token == "true" || exprs.IsName(token))
}

func (s *places) process(token string) bool {
	switch token {
	case "stop":
		return true
	case "send":
		return s.later("name", "expression", ";", "process")
	case "recv", "give", "take", "pick":
		return s.later("name", "name", ";", "process")
	case "case":
		s.labels = append(s.labels, "")
		return s.later("name", "{", "label")
	case "end":
		return s.later("name", ";", "process")
	case "spawn":
		return s.later("name", ":", "type", "(", "name or )", "{", "process", "}", ";", "process")
	case "if":
		return s.later("expression", "{", "process", "}", "else", "{", "process", "}")
	case "let":
		return s.later("name", "=", "expression", ";", "process")
	case "print":
		return s.later("expression", ";", "process")
	}
	return s.later("(", "expression or ; or )") && syntax.IsProc(token)
}

func (s *places) list(next, token string) bool {
	last := len(s.labels) - 1
	switch {
	case next == "definition":
		return s.later("new", "(", "value or ; or )", "=", "process") && token == "def"
	case next == "new":
		return syntax.IsProc(token)
	case next == "value", next == "value or ; or )" && exprs.IsName(token):
		return s.later(":", "sort", ", value or ; or )") && exprs.IsName(token)
	case next == ", value or ; or )" && token == ",":
		return s.later("value")
	case (next == ", value or ; or )" || next == "value or ; or )") && token == ";", next == ", end or )" && token == ",":
		return s.later("name", ":", "type", ", end or )")
	case next == "sort":
		return token == "int" || token == "text"
	case next == "type":
		s.free = s.free || types.IsVar(token)
		return token == "end" || token == "!int.end" || s.free
	case next == "label":
		rises := token > s.labels[last]
		s.labels[last] = token
		return s.later(":", "process", ", label or }") && exprs.IsName(token) && rises
	case next == ", label or }" && token == ",":
		return s.later("label")
	case next == ", label or }":
		s.labels = s.labels[:last]
		return token == "}"
	case next == "name or )" && exprs.IsName(token):
		return s.later(", name or )")
	case next == ", expression or ; or )" && token == ",":
		return s.later("expression", ", expression or ; or )")
	case next == "expression or ; or )" && token != ")" && token != ";":
		s.later(", expression or ; or )")
		return s.operand(token)
	case strings.HasSuffix(next, "expression or ; or )") && token == ";", next == ", name or )" && token == ",":
		return s.later("name", ", name or )")
	case strings.HasSuffix(next, " or )"):
		return token == ")"
	}
	return token == next
}

// laid writes tokens with that many blanks between them, and one at least where they would be read as others; starts says where each begins, and where the text ends.
func laid(read []string, blanks func() int) (s string, starts []int) {
	for i, token := range read {
		n := blanks()
		if i > 0 && runTogether(read[i-1], token) {
			n = max(n, 1)
		}
		s += strings.Repeat(" ", n)
		starts = append(starts, len(s))
		s += token
	}
	s += strings.Repeat(" ", blanks())
	return s, append(starts, len(s))
}

func runTogether(a, b string) bool {
	isLetter := func(c byte) bool { return 'a' <= c && c <= 'z' }
	return isLetter(a[len(a)-1]) && isLetter(b[0]) || a == b && (a == "=" || a == "5")
}

// faultOf says what Parse must say of tokens: that at which one it can't go on is the k-th from 0 on, their number if they are too few.
func faultOf(read []string) (code api.Errno, k int) {
	s := places{todo: []string{"definition"}}
	for i, token := range read {
		if !s.take(token) {
			return api.ErrSyntax, i
		}
		if s.free {
			return api.ErrName, -1
		}
	}
	if !s.isOver() {
		return api.ErrSyntax, len(read)
	}
	return api.OK, -1
}

// compare holds Parse against what faultOf says, and tells whether the tokens may go on.
func compare(t *testing.T, read []string, blanks func() int) bool {
	t.Helper()
	s, starts := laid(read, blanks)
	p, f := syntax.Parse(s)
	code, k := faultOf(read)
	want := api.Fault{Code: code}
	if k >= 0 {
		want.At = starts[k]
	}
	if f == (api.Fault{Code: api.ErrArg}) && code == api.OK && strings.Count(s, ",") >= 6 {
		// A list that is too long: what Shape says is looked at elsewhere.
		return false
	}
	if f != want {
		t.Fatalf("Parse(%q): %v, want %v", s, f, want)
	}
	if code == api.OK {
		w, _ := syntax.Write(p)
		if bare(w) != bare(s) {
			t.Fatalf("Parse(%q) is %q", s, w)
		}
	}
	return code == api.OK || k == len(read)
}

// bare leaves out what need not stand: blanks, bytes 10, brackets of expressions, and with these all others.
func bare(s string) string {
	return strings.NewReplacer(" ", "", "\n", "", "(", "", ")", "").Replace(s)
}

// grown compares all rows of so many more tokens behind those that are there; those in through are gone on behind.
func grown(t *testing.T, read []string, more int, through []string) {
	for _, token := range tokens {
		longer := append(slices.Clip(read), token)
		goesOn := compare(t, longer, func() int { return 0 })
		if goesOn && more > 1 && slices.Contains(through, token) {
			grown(t, longer, more-1, through)
		}
	}
}

func TestP26AllShortRows(t *testing.T) {
	grown(t, nil, 9, []string{"def", "a", "(", ")", "=", "int", ":", ",", ";", "end", "stop", "\n"})
	grown(t, strings.Fields("def a ( ) ="), 6, []string{"stop", "send", "end", "case", "if", "a", "5", "(", ")", "{", "}", ":", ";", ",", "\n"})
	for _, s := range []string{"case a { a : stop", "spawn a : end (", "if a { stop", "let a =", "print", "a (", "a ( a", "a ( ; a", "recv a", "spawn a : !int.end ( a", "spawn a : end ( ) { stop }", "case a { a : print 5", "if a { case b { b : stop"} {
		grown(t, append(strings.Fields("def a ( ) ="), strings.Fields(s)...), 5, []string{"stop", "else", "b", "not", "(", ")", "{", "}", ":", ";", ",", "=", "*", "\n"})
	}
}

// shuffler makes the tokens of texts.
type shuffler struct{ *rand.Rand }

func (m shuffler) name() string {
	return []string{"a", "b", "int", "text", "def", "stop", "end", "else", "print"}[m.Intn(9)]
}

// some are up to six, with commas between them.
func (m shuffler) some(one func() []string) []string {
	var out []string
	for i := range max(0, m.Intn(8)-2) {
		if i > 0 {
			out = append(out, ",")
		}
		out = append(out, one()...)
	}
	return out
}

func (m shuffler) names() []string { return m.some(func() []string { return []string{m.name()} }) }

// behind puts a ; ahead of what is there, if it is.
func behind(list []string) []string {
	if len(list) == 0 {
		return nil
	}
	return append([]string{";"}, list...)
}

func (m shuffler) expr() []string {
	switch m.Intn(8) {
	case 0:
		return slices.Concat([]string{"("}, m.expr(), []string{")"})
	case 1:
		return append([]string{"not"}, m.expr()...)
	case 2:
		return slices.Concat(m.expr(), []string{[]string{"*", "and"}[m.Intn(2)]}, m.expr())
	case 3:
		return []string{"5"}
	}
	return []string{m.name()}
}

func (m shuffler) typed() string { return []string{"end", "!int.end"}[m.Intn(2)] }

func (m shuffler) proc(deep int) []string {
	if deep == 0 {
		return []string{"stop"}
	}
	kid := func() []string { return m.proc(m.Intn(deep)) }
	next := func(begin ...string) []string { return slices.Concat(begin, []string{";"}, kid()) }
	braced := func(begin ...string) []string { return slices.Concat(begin, []string{"{"}, kid(), []string{"}"}) }
	switch m.Intn(9) {
	case 0:
		return next(append([]string{"send", m.name()}, m.expr()...)...)
	case 1:
		return next([]string{"recv", "give", "take", "pick"}[m.Intn(4)], m.name(), m.name())
	case 2:
		return next("end", m.name())
	case 3:
		return next(braced(slices.Concat([]string{"spawn", m.name(), ":", m.typed(), "("}, m.names(), []string{")"})...)...)
	case 4:
		return braced(append(braced(append([]string{"if"}, m.expr()...)...), "else")...)
	case 5:
		return next(append([]string{"let", m.name(), "="}, m.expr()...)...)
	case 6:
		return next(append([]string{"print"}, m.expr()...)...)
	case 7:
		return slices.Concat([]string{"text", "("}, m.some(m.expr), behind(m.names()), []string{")"})
	}
	out := []string{"case", m.name(), "{"}
	for i, label := range []string{"a", "case", "end", "int", "stop", "text"}[m.Intn(6):] {
		if i > 0 {
			out = append(out, ",")
		}
		out = append(append(out, label, ":"), kid()...)
	}
	return append(out, "}")
}

func (m shuffler) program() []string {
	var out []string
	for range 1 + m.Intn(2) {
		values := m.some(func() []string { return []string{m.name(), ":", []string{"int", "text"}[m.Intn(2)]} })
		chans := m.some(func() []string { return []string{m.name(), ":", m.typed()} })
		out = slices.Concat(out, []string{"def", "a", "("}, values, behind(chans), []string{")", "="}, m.proc(m.Intn(6)))
	}
	return out
}

func TestP26LongRows(t *testing.T) {
	m := shuffler{rand.New(rand.NewSource(9))}
	blanks := func() int { return max(0, m.Intn(4)-2) }
	for range 20000 {
		read := m.program()
		if len(read) > 300 {
			continue
		}
		if !compare(t, read, blanks) {
			t.Fatalf("no program: %q", read)
		}
		i := m.Intn(len(read) + 1)
		for _, token := range []string{"\n", tokens[m.Intn(len(tokens))]} {
			compare(t, slices.Concat(read[:i], []string{token}, read[i:]), blanks)
		}
		if i < len(read) {
			compare(t, slices.Concat(read[:i], []string{tokens[m.Intn(len(tokens))]}, read[i+1:]), blanks)
			compare(t, slices.Concat(read[:i], read[i+1:]), blanks)
		}
	}
}
