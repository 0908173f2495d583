// Package pieces: texts that are read piece by piece, with blanks between the pieces.
package pieces

import (
	"strings"

	"duet/api"
)

// Bytes of which there may be many in a row.
const (
	Letters = "abcdefghijklmnopqrstuvwxyz"
	Digits  = "0123456789"
)

// Leading is what s has of these bytes ahead of any other.
func Leading(s, of string) string { return s[:len(s)-len(strings.TrimLeft(s, of))] }

// Reader of a text: at is where the next piece begins, behind blanks.
type Reader struct {
	text, blanks string
	at           int
}

// Read is where a reading begins, at that byte or at the nearest one that the text has: a fault that is thrown at any of its pieces comes down here.
func Read(text, blanks string, at int, reading func(*Reader)) api.Fault {
	if len(text) > api.MaxSource {
		return api.Fault{Code: api.ErrLarge, At: 0}
	}
	return Caught(func() {
		r := Reader{text: text, blanks: blanks, at: min(max(at, 0), len(text))}
		r.Pass(0)
		reading(&r)
	})
}

// Caught is the fault that a reading throws, for readings that go by bytes too; that of OK, if it comes to its end.
func Caught(reading func()) (f api.Fault) {
	defer func() {
		if thrown := recover(); thrown != nil {
			f = thrown.(api.Fault)
		}
	}()
	reading()
	return api.Fault{}
}

// Text is all of it, for readings that begin at a byte of it by themselves.
func (r *Reader) Text() string { return r.text }

// At is the byte at which the next piece begins.
func (r *Reader) At() int { return r.at }

// Rest begins with the next piece.
func (r *Reader) Rest() string { return r.text[r.at:] }

// Word is the next piece, if it is one of letters; else it is the empty text.
func (r *Reader) Word() string { return Leading(r.Rest(), Letters) }

// Pass goes over a piece of so many bytes, and the blanks behind it.
func (r *Reader) Pass(size int) {
	r.at += size
	r.at += len(Leading(r.Rest(), r.blanks))
}

// Fault at the next piece: what can't go on must not have passed it.
func (r *Reader) Fault(code api.Errno) api.Fault { return api.Fault{Code: code, At: r.at} }

// Skip passes the sign, if it is the next piece.
func (r *Reader) Skip(sign string) bool {
	if !strings.HasPrefix(r.Rest(), sign) {
		return false
	}
	r.Pass(len(sign))
	return true
}

// Need is for signs without which a reading can't go on.
func (r *Reader) Need(sign string) {
	if !r.Skip(sign) {
		panic(r.Fault(api.ErrSyntax))
	}
}

// Take passes a word that must be such a one, and answers a copy of it. (Where no letters stand it is asked of the empty word.)
func (r *Reader) Take(is func(string) bool) string {
	word := r.Word()
	if !is(word) {
		panic(r.Fault(api.ErrSyntax))
	}
	r.Pass(len(word))
	return strings.Clone(word)
}

// Finish is for texts behind which nothing may stand.
func (r *Reader) Finish() {
	if r.Rest() != "" {
		panic(r.Fault(api.ErrSyntax))
	}
}
