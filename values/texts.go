package values

import (
	"strconv"
	"strings"
	"unicode/utf8"

	"duet/api"
)

// quoted goes by bytes: none of those that are written otherwise is part of a longer letter.
func quoted(s string) string {
	var out strings.Builder
	out.WriteByte('"')
	for i := range len(s) {
		switch s[i] {
		case '\\':
			out.WriteString(`\\`)
		case '"':
			out.WriteString(`\"`)
		case '\n':
			out.WriteString(`\n`)
		default:
			out.WriteByte(s[i])
		}
	}
	out.WriteByte('"')
	return out.String()
}

// readInt holds the number against its text: ParseInt also takes noughts and a sign that are never written.
func readInt(s string) (api.Value, api.Errno) {
	n, err := strconv.ParseInt(s, 10, 64)
	if err != nil || strconv.FormatInt(n, 10) != s {
		return api.Value{}, api.ErrSyntax
	}
	return api.Value{Sort: api.Int, N: n}, api.OK
}

// readText tells ErrLarge only of a text that is well written to its end.
func readText(s string) (api.Value, api.Errno) {
	if len(s) < 2 || s[len(s)-1] != '"' || !utf8.ValidString(s) {
		return api.Value{}, api.ErrSyntax
	}
	text, ok := unquoted(s[1 : len(s)-1])
	if !ok {
		return api.Value{}, api.ErrSyntax
	}
	if len(text) > api.MaxBytes {
		return api.Value{}, api.ErrLarge
	}
	return api.Value{Sort: api.Text, S: string(text)}, api.OK
}

// unquoted keeps one byte beyond MaxBytes and no more: that many tell that a text is too large.
func unquoted(body string) (text []byte, ok bool) {
	for i := 0; i < len(body); i++ {
		c := body[i]
		switch c {
		case '"', '\n':
			return nil, false
		case '\\':
			i++
			if i == len(body) {
				return nil, false
			}
			if c, ok = unescaped(body[i]); !ok {
				return nil, false
			}
		}
		if len(text) <= api.MaxBytes {
			text = append(text, c)
		}
	}
	return text, true
}

// unescaped says which byte a backslash and c stand for.
func unescaped(c byte) (byte, bool) {
	switch c {
	case '\\', '"':
		return c, true
	case 'n':
		return '\n', true
	}
	return 0, false
}
