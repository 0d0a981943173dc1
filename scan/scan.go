// Package scan goes through a text, from its first byte on. The layers that
// read texts embed its Reader.
package scan

import (
	"strings"

	"archivist/num"
	"archivist/quote"
)

// Kind is a kind of bytes.
type Kind int

const (
	Digit  Kind = iota // 0 to 9
	Letter             // A to Z, a to z
	Under              // _
	Space              // 32, 9, 10
)

// Is tells whether b is of one of kinds.
func Is(b byte, kinds ...Kind) bool {
	for _, k := range kinds {
		if isOne(b, k) {
			return true
		}
	}
	return false
}

func isOne(b byte, k Kind) bool {
	switch k {
	case Digit:
		return b >= '0' && b <= '9'
	case Letter:
		return b >= 'A' && b <= 'Z' || b >= 'a' && b <= 'z'
	case Under:
		return b == '_'
	case Space:
		return b == ' ' || b == '\t' || b == '\n'
	}
	return false
}

// Reader is a text, and how far it is read.
type Reader struct {
	text string
	at   int
}

// Of tells a Reader of s, of which nothing is read.
func Of(s string) Reader {
	return Reader{text: s}
}

// At tells how many bytes are read.
func (r *Reader) At() int {
	return r.at
}

// Rest tells what is not read.
func (r *Reader) Rest() string {
	return r.text[r.at:]
}

// Done tells whether all is read.
func (r *Reader) Done() bool {
	return r.at == len(r.text)
}

// Peek tells the next byte; 0, and false, if there is none.
func (r *Reader) Peek() (byte, bool) {
	if r.Done() {
		return 0, false
	}
	return r.text[r.at], true
}

// Next reads a byte, if there is one.
func (r *Reader) Next() (byte, bool) {
	b, ok := r.Peek()
	if ok {
		r.at++
	}
	return b, ok
}

// Skip reads n bytes, or as many as there are.
func (r *Reader) Skip(n int) {
	r.at += min(max(n, 0), len(r.text)-r.at)
}

// Take reads the first of texts that stands next; false, if none does.
func (r *Reader) Take(texts ...string) (string, bool) {
	for _, s := range texts {
		if strings.HasPrefix(r.Rest(), s) {
			r.at += len(s)
			return s, true
		}
	}
	return "", false
}

// Run reads as many bytes of kinds as there are.
func (r *Reader) Run(kinds ...Kind) string {
	return r.While(func(b byte) bool { return Is(b, kinds...) })
}

// While reads as many bytes of which good tells true as there are.
func (r *Reader) While(good func(b byte) bool) string {
	start := r.at
	for !r.Done() && good(r.text[r.at]) {
		r.at++
	}
	return r.text[start:r.at]
}

// Number reads a number as num tells it, as many digits as there are; of what
// is none nothing is read.
func (r *Reader) Number() (int64, bool) {
	start := r.at
	r.Take("-")
	r.Run(Digit)
	n, ok := num.Parse(r.text[start:r.at])
	if !ok {
		r.at = start
	}
	return n, ok
}

// Quoted reads a text in quotes; of what is none nothing is read.
func (r *Reader) Quoted() (string, bool) {
	text, size, ok := quote.Get(r.Rest())
	r.at += size
	return text, ok
}
