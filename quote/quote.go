// Package quote is layer 1: texts in quotes, joined, cut.
package quote

import "strings"

// digits are the only ones that are written behind `\x`.
const digits = "0123456789abcdef"

// Put tells s in quotes.
func Put(s string) string {
	out := make([]byte, 0, len(s)+2)
	out = append(out, '"')
	for i := range len(s) {
		out = appendByte(out, s[i])
	}
	return string(append(out, '"'))
}

// Get tells the text whose Put s begins with, and how long that Put is.
func Get(s string) (text string, size int, ok bool) {
	if s == "" || s[0] != '"' {
		return "", 0, false
	}
	var out []byte
	at := 1
	for at < len(s) && s[at] != '"' {
		b, n, ok := firstByte(s[at:])
		if !ok {
			return "", 0, false
		}
		out = append(out, b)
		at += n
	}
	if at == len(s) {
		return "", 0, false
	}
	return string(out), at + 1, true
}

// Join tells the parts, in order, with sep between.
func Join(sep string, parts ...string) string {
	return strings.Join(parts, sep)
}

// Among tells the place of the first of l that is s, or -1.
func Among(s string, l ...string) int {
	for i, one := range l {
		if one == s {
			return i
		}
	}
	return -1
}

// Cut cuts s at the first place at which one of seps begins.
func Cut(s string, seps ...string) (ahead, sep, behind string) {
	best := -1
	for _, one := range seps {
		if one == "" {
			continue
		}
		at := strings.Index(s, one)
		// A later one wins only by a place further ahead: of those that
		// begin at one place the first in seps counts.
		if at >= 0 && (best < 0 || at < best) {
			best, sep = at, one
		}
	}
	if best < 0 {
		return s, "", ""
	}
	return s[:best], sep, s[best+len(sep):]
}

// rare tells whether b has no form but the one in hexadecimal digits.
func rare(b byte) bool {
	return b > 126 || b < 32 && b != '\n' && b != '\t'
}

func appendByte(out []byte, b byte) []byte {
	switch {
	case b == '"' || b == '\\':
		return append(out, '\\', b)
	case b == '\n':
		return append(out, '\\', 'n')
	case b == '\t':
		return append(out, '\\', 't')
	case rare(b):
		return append(out, '\\', 'x', digits[b/16], digits[b%16])
	}
	return append(out, b)
}

// firstByte tells the byte whose form s, which is not nothing, begins with.
func firstByte(s string) (b byte, size int, ok bool) {
	if s[0] != '\\' {
		return s[0], 1, !rare(s[0]) && s[0] != '\n' && s[0] != '\t'
	}
	if len(s) < 2 {
		return 0, 0, false
	}
	switch s[1] {
	case '"', '\\':
		return s[1], 2, true
	case 'n':
		return '\n', 2, true
	case 't':
		return '\t', 2, true
	case 'x':
		b, ok = hexByte(s[2:])
		return b, 4, ok
	}
	return 0, 0, false
}

// hexByte tells the byte whose two digits s begins with, if digits are its
// only form: each text has one Put.
func hexByte(s string) (byte, bool) {
	if len(s) < 2 {
		return 0, false
	}
	high, low := strings.IndexByte(digits, s[0]), strings.IndexByte(digits, s[1])
	if high < 0 || low < 0 {
		return 0, false
	}
	b := byte(high*16 + low)
	return b, rare(b)
}
