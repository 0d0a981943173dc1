package scan_test

import (
	"testing"

	"archivist/scan"
)

func TestIs(t *testing.T) {
	for b := range 256 {
		c := byte(b)
		digit, letter := c >= '0' && c <= '9', c >= 'A' && c <= 'Z' || c >= 'a' && c <= 'z'
		space := c == ' ' || c == 9 || c == 10
		if scan.Is(c, scan.Digit) != digit || scan.Is(c, scan.Letter) != letter || scan.Is(c, scan.Under) != (c == '_') || scan.Is(c, scan.Space) != space {
			t.Errorf("%q", c)
		}
		if scan.Is(c, scan.Digit, scan.Under, scan.Letter) != (digit || letter || c == '_') || scan.Is(c) {
			t.Errorf("%q among several", c)
		}
	}
	if scan.Is('a', scan.Kind(-1)) {
		t.Error("a kind that is none")
	}
}

func TestReader(t *testing.T) {
	r := scan.Of("ab12_ -5x\"q\"=")
	if s := r.Run(scan.Letter); s != "ab" || r.At() != 2 {
		t.Error(s)
	}
	if n, ok := r.Number(); n != 12 || !ok || r.Rest() != "_ -5x\"q\"=" {
		t.Error(n, ok)
	}
	if s := r.Run(scan.Under, scan.Space); s != "_ " {
		t.Error(s)
	}
	if n, ok := r.Number(); n != -5 || !ok {
		t.Error(n, ok)
	}
	if n, ok := r.Number(); n != 0 || ok || r.At() != 8 {
		t.Error(n, ok)
	}
	if b, ok := r.Next(); b != 'x' || !ok {
		t.Error(b, ok)
	}
	if s, ok := r.Quoted(); s != "q" || !ok {
		t.Error(s, ok)
	}
	if s, ok := r.Quoted(); s != "" || ok || r.Rest() != "=" {
		t.Error(s, ok)
	}
	if s, ok := r.Take("==", "!", "="); s != "=" || !ok || !r.Done() {
		t.Error(s, ok)
	}
	if b, ok := r.Next(); b != 0 || ok || r.At() != 13 {
		t.Error(b, ok)
	}
	if s, ok := r.Take("="); s != "" || ok {
		t.Error(s, ok)
	}
}

func TestNumberThatIsNone(t *testing.T) {
	for _, s := range []string{"", "-", "01", "-0", "x", "9223372036854775808", "--1"} {
		r := scan.Of(s)
		if n, ok := r.Number(); n != 0 || ok || r.At() != 0 {
			t.Errorf("%q: %d %t", s, n, ok)
		}
	}
}

func TestSkip(t *testing.T) {
	r := scan.Of("abcd")
	for i, c := range []struct {
		n    int
		rest string
	}{{2, "cd"}, {0, "cd"}, {-1, "cd"}, {1, "d"}, {5, ""}, {1, ""}} {
		if r.Skip(c.n); r.Rest() != c.rest {
			t.Error(i, r.Rest())
		}
	}
}
