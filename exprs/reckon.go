package exprs

import (
	"duet/api"
	"duet/values"
)

// Sort: P9.
func Sort(x api.Expr, names []string, sorts []int) (int, api.Errno) {
	if e := Check(x); e != api.OK {
		return 0, e
	}
	if len(names) != len(sorts) {
		return 0, api.ErrArg
	}
	return sortOf(x, names, sorts)
}

// Eval: P9.
func Eval(x api.Expr, env []api.Bind) (api.Value, api.Errno) {
	if e := Check(x); e != api.OK {
		return api.Value{}, e
	}
	names, sorts := make([]string, len(env)), make([]int, len(env))
	for i, bind := range env {
		if e := values.Check(bind.Value); e != api.OK {
			return api.Value{}, e
		}
		names[i], sorts[i] = bind.Name, bind.Value.Sort
	}
	if _, e := sortOf(x, names, sorts); e != api.OK {
		return api.Value{}, e
	}
	return valueOf(x, env), api.OK
}

// sortOf takes what Check has passed, and as many names as sorts.
func sortOf(x api.Expr, names []string, sorts []int) (int, api.Errno) {
	switch x.Kind {
	case api.Lit:
		return x.Value.Sort, api.OK
	case api.Name:
		return sortOfName(x.Name, names, sorts)
	}
	return sortOfOperator(x, names, sorts)
}

func sortOfName(name string, names []string, sorts []int) (int, api.Errno) {
	for i := len(names) - 1; i >= 0; i-- {
		if names[i] == name {
			return sorts[i], api.OK
		}
	}
	return 0, api.ErrName
}

// sortOfOperator asks whether a Kid fits ahead of looking into the next one: that tells which error is first.
func sortOfOperator(x api.Expr, names []string, sorts []int) (int, api.Errno) {
	wanted, answer := operatorSorts(x.Name)
	for i, kid := range x.Kids {
		sort, e := sortOf(kid, names, sorts)
		if e != api.OK {
			return 0, e
		}
		if i == 0 && isComparison(x.Name) {
			wanted = sort
		}
		if sort != wanted {
			return 0, api.ErrSort
		}
	}
	return answer, api.OK
}

func isComparison(op string) bool { return level(op) == level("==") }

// operatorSorts says what an operator is of, and what it is; a comparison is of whatever its first Kid is of.
func operatorSorts(op string) (of, is int) {
	switch op {
	case "or", "and", "not":
		return api.Bool, api.Bool
	case "==", "<", "<=":
		return 0, api.Bool
	case "++":
		return api.Text, api.Text
	case "#":
		return api.Text, api.Int
	}
	return api.Int, api.Int
}

// valueOf takes what has a sort: then nothing in it can fail.
func valueOf(x api.Expr, env []api.Bind) api.Value {
	switch x.Kind {
	case api.Lit:
		return copied(x.Value)
	case api.Name:
		return valueOfName(x.Name, env)
	}
	first := valueOf(x.Kids[0], env)
	if len(x.Kids) == 1 {
		return reckonOne(x.Name, first)
	}
	return reckonTwo(x.Name, first, valueOf(x.Kids[1], env))
}

// valueOfName takes a name that has a sort: there is one such in env.
func valueOfName(name string, env []api.Bind) api.Value {
	for i := len(env) - 1; i >= 0; i-- {
		if env[i].Name == name {
			return copied(env[i].Value)
		}
	}
	return api.Value{}
}

func number(n int64) api.Value { return api.Value{Sort: api.Int, N: n} }

func truth(holds bool) api.Value {
	if holds {
		return api.Value{Sort: api.Bool, N: 1}
	}
	return api.Value{Sort: api.Bool, N: 0}
}

func reckonOne(op string, a api.Value) api.Value {
	switch op {
	case "not":
		return truth(a.N == 0)
	case "neg":
		return number(-a.N)
	}
	letters, _ := values.Length(a)
	return number(int64(letters))
}

func reckonTwo(op string, a, b api.Value) api.Value {
	switch op {
	case "or":
		return truth(a.N == 1 || b.N == 1)
	case "and":
		return truth(a.N == 1 && b.N == 1)
	case "==", "<", "<=":
		return compared(op, a, b)
	case "++":
		joined, _ := values.Joined(a, b)
		return joined
	}
	return number(reckonNumbers(op, a.N, b.N))
}

func compared(op string, a, b api.Value) api.Value {
	order, _ := values.Order(a, b)
	switch op {
	case "==":
		return truth(order == 0)
	case "<":
		return truth(order < 0)
	}
	return truth(order <= 0)
}

func reckonNumbers(op string, a, b int64) int64 {
	switch op {
	case "+":
		return a + b
	case "-":
		return a - b
	case "*":
		return a * b
	case "/":
		return quotient(a, b)
	}
	// Of a division by 0, whose quotient is 0, this leaves the first number.
	return a - quotient(a, b)*b
}

func quotient(a, b int64) int64 {
	if b == 0 {
		return 0
	}
	return a / b
}
