// Package values: numbers, truths and texts: see doc/01-values.md.
package values

import (
	"cmp"
	"slices"
	"strconv"
	"strings"
	"unicode/utf8"

	"duet/api"
)

// Check: P3.
func Check(v api.Value) api.Errno {
	switch v.Sort {
	case api.Int:
		return argUnless(v.S == "")
	case api.Bool:
		return argUnless(v.S == "" && (v.N == 0 || v.N == 1))
	case api.Text:
		return checkText(v)
	}
	return api.ErrArg
}

// Write: P4.
func Write(v api.Value) (string, api.Errno) {
	if e := Check(v); e != api.OK {
		return "", e
	}
	switch v.Sort {
	case api.Int:
		return strconv.FormatInt(v.N, 10), api.OK
	case api.Bool:
		return strconv.FormatBool(v.N == 1), api.OK
	}
	return quoted(v.S), api.OK
}

// Read: P4.
func Read(s string) (api.Value, api.Errno) {
	switch {
	case s == "true":
		return api.Value{Sort: api.Bool, N: 1}, api.OK
	case s == "false":
		return api.Value{Sort: api.Bool, N: 0}, api.OK
	case strings.HasPrefix(s, `"`):
		return readText(s)
	}
	return readInt(s)
}

// Order: P5.
func Order(a, b api.Value) (int, api.Errno) {
	if e := checkAll(a, b); e != api.OK {
		return 0, e
	}
	order := cmp.Or(cmp.Compare(a.Sort, b.Sort), cmp.Compare(a.N, b.N), strings.Compare(a.S, b.S))
	return order, api.OK
}

// Length: P5.
func Length(v api.Value) (int, api.Errno) {
	if e := needTexts(v); e != api.OK {
		return 0, e
	}
	return utf8.RuneCountInString(v.S), api.OK
}

// Joined: P5.
func Joined(a, b api.Value) (api.Value, api.Errno) {
	if e := needTexts(a, b); e != api.OK {
		return api.Value{}, e
	}
	// Written letter by letter: a + "" would be a's own memory.
	var joined strings.Builder
	for _, letter := range a.S + b.S {
		if joined.Len()+utf8.RuneLen(letter) > api.MaxBytes {
			break
		}
		joined.WriteRune(letter)
	}
	return api.Value{Sort: api.Text, S: joined.String()}, api.OK
}

// Turned: P5.
func Turned(v api.Value) (api.Value, api.Errno) {
	if e := needTexts(v); e != api.OK {
		return api.Value{}, e
	}
	letters := []rune(v.S)
	slices.Reverse(letters)
	return api.Value{Sort: api.Text, S: string(letters)}, api.OK
}

func argUnless(ok bool) api.Errno {
	if ok {
		return api.OK
	}
	return api.ErrArg
}

// checkText asks for N first and for UTF-8 last: ErrLarge is told only where N is 0, but of any bytes.
func checkText(v api.Value) api.Errno {
	if v.N != 0 {
		return api.ErrArg
	}
	if len(v.S) > api.MaxBytes {
		return api.ErrLarge
	}
	return argUnless(utf8.ValidString(v.S))
}

// checkAll says what Check says of the first that is no value.
func checkAll(vs ...api.Value) api.Errno {
	for _, v := range vs {
		if e := Check(v); e != api.OK {
			return e
		}
	}
	return api.OK
}

// needTexts asks for sorts only when all are values: what Check says is told ahead of ErrSort.
func needTexts(vs ...api.Value) api.Errno {
	if e := checkAll(vs...); e != api.OK {
		return e
	}
	for _, v := range vs {
		if v.Sort != api.Text {
			return api.ErrSort
		}
	}
	return api.OK
}
