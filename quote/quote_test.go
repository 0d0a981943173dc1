package quote_test

import (
	"math/rand"
	"strings"
	"testing"

	"archivist/quote"
)

// TestPutBytes (P1.1) holds each byte against its form.
func TestPutBytes(t *testing.T) {
	const hex = "0123456789abcdef"
	for b := range 256 {
		want := string([]byte{byte(b)})
		switch {
		case b == '"':
			want = `\"`
		case b == '\\':
			want = `\\`
		case b == 10:
			want = `\n`
		case b == 9:
			want = `\t`
		case b < 32 || b > 126:
			want = `\x` + hex[b/16:b/16+1] + hex[b%16:b%16+1]
		}
		if got := quote.Put(string([]byte{byte(b)})); got != `"`+want+`"` {
			t.Errorf("byte %d: %s", b, got)
		}
	}
}

// TestPut (P1.1) has whole texts.
func TestPut(t *testing.T) {
	for s, want := range map[string]string{
		"":         `""`,
		"ab c":     `"ab c"`,
		"\"\\":     `"\"\\"`,
		"a\nb\tc":  `"a\nb\tc"`,
		"\r\x1f":   `"\x0d\x1f"`,
		" ~\x7f":   `" ~\x7f"`,
		"é":        `"\xc3\xa9"`,
		"\\n\\x41": `"\\n\\x41"`,
	} {
		if got := quote.Put(s); got != want {
			t.Errorf("%q: %s, not %s", s, got, want)
		}
	}
}

// TestGetForms (P1.2) has texts that are no Put, though they look like one.
func TestGetForms(t *testing.T) {
	for _, s := range []string{
		"", "a", "a\"b\"", `"`, `"a`, `"\"`, `"\`, `"\q"`, `"\x"`, `"\x0"`, `"\x0`, `"\x`,
		`"\x41"`, `"\x0a"`, `"\x09"`, `"\x0D"`, `"\x7F"`, `"\x22"`, `"\x5c"`, `"\xg0"`, `"\x0g"`,
		"\"\n\"", "\"\t\"", "\"\x00\"", "\"\x1f\"", "\"\x7f\"", "\"\xff\"", "\"é\"", `"\r"`, `"\N"`, ` "a"`, "'a'",
	} {
		if text, size, ok := quote.Get(s); text != "" || size != 0 || ok {
			t.Errorf("%q: %q %d %t", s, text, size, ok)
		}
	}
	for s, want := range map[string]string{
		`""`: "", `"a"`: "a", `"a" "b"`: "a", `"\x0d"=`: "\r", `"\x7f\x80\xff"`: "\x7f\x80\xff", `"\n\t\"\\"\`: "\n\t\"\\",
	} {
		if text, size, ok := quote.Get(s); text != want || !ok || size != len(quote.Put(want)) {
			t.Errorf("%q: %q %d %t", s, text, size, ok)
		}
	}
}

// TestThereAndBack (P1.4) puts texts, and gets them with anything behind.
func TestThereAndBack(t *testing.T) {
	rnd := rand.New(rand.NewSource(1))
	tails := []string{"", "\"", "\\", "x", "\"\"", "\x00", " \"a\"", `\"`}
	for range 2000 {
		raw := make([]byte, rnd.Intn(12))
		for i := range raw {
			raw[i] = "ab\"\\nx0\n\t\x00\x7f\xff"[rnd.Intn(12)]
		}
		s := string(raw)
		put := quote.Put(s)
		for _, tail := range tails {
			if text, size, ok := quote.Get(put + tail); text != s || size != len(put) || !ok {
				t.Fatalf("%q and %q: %q %d %t", s, tail, text, size, ok)
			}
		}
		for i := range put {
			if text, size, ok := quote.Get(put[:i]); text != "" || size != 0 || ok {
				t.Fatalf("%q is cut at %d: %q", put, i, text)
			}
		}
	}
}

// TestOnePut (P1.4) has every short text that Get takes put as it stood.
func TestOnePut(t *testing.T) {
	const bytes = "\"\\nxt017afA\n\t\x7f\xc3 "
	var try func(s string, left int)
	try = func(s string, left int) {
		if text, size, ok := quote.Get(s); ok && quote.Put(text) != s[:size] {
			t.Fatalf("%q is read as %q", s, text)
		}
		for i := 0; left > 0 && i < len(bytes); i++ {
			try(s+bytes[i:i+1], left-1)
		}
	}
	try(`"`, 5)
}

// TestJoin (P1.3) has parts of any number.
func TestJoin(t *testing.T) {
	if got := quote.Join(", "); got != "" {
		t.Errorf("of nothing: %q", got)
	}
	if got := quote.Join(", ", "a"); got != "a" {
		t.Errorf("of one: %q", got)
	}
	if got := quote.Join(", ", "", "a", "", "b", ""); got != ", a, , b, " {
		t.Errorf("of five: %q", got)
	}
	if got := quote.Join("", "a", "b"); got != "ab" {
		t.Errorf("with nothing between: %q", got)
	}
}

// TestAmong (P1.3) has texts that are there once, twice, and never.
func TestAmong(t *testing.T) {
	for i, c := range []struct {
		s    string
		l    []string
		want int
	}{
		{"b", []string{"a", "b", "c", "b"}, 1}, {"a", []string{"a"}, 0}, {"A", []string{"a"}, -1},
		{"", nil, -1}, {"", []string{"a"}, -1}, {"", []string{"a", ""}, 1}, {"ab", []string{"a", "b", "abc"}, -1},
	} {
		if got := quote.Among(c.s, c.l...); got != c.want {
			t.Errorf("%d: %d", i, got)
		}
	}
}

// TestCut (P1.3) has places at which several may begin.
func TestCut(t *testing.T) {
	for i, c := range []struct {
		s                  string
		seps               []string
		ahead, sep, behind string
	}{
		{"a=b=c", []string{"="}, "a", "=", "b=c"},
		{"a==b", []string{"=", "=="}, "a", "=", "=b"},
		{"a==b", []string{"==", "="}, "a", "==", "b"},
		{"a!b=c", []string{"=", "!"}, "a", "!", "b=c"},
		{"abc", []string{"bc", "b", "a"}, "", "a", "bc"},
		{"abc", []string{"a", "b"}, "", "a", "bc"},
		{"abc", []string{"b", "a"}, "", "a", "bc"},
		{"abc", []string{"", "c"}, "ab", "c", ""},
		{"abc", []string{"", "x"}, "abc", "", ""},
		{"abc", []string{"abcd"}, "abc", "", ""},
		{"abc", nil, "abc", "", ""},
		{"", []string{"a", ""}, "", "", ""},
		{"", nil, "", "", ""},
		{"\xff\xfe", []string{"\xfe"}, "\xff", "\xfe", ""},
	} {
		if ahead, sep, behind := quote.Cut(c.s, c.seps...); ahead != c.ahead || sep != c.sep || behind != c.behind {
			t.Errorf("%d: %q %q %q", i, ahead, sep, behind)
		}
	}
}

// TestLong has a text of many bytes, so that a slow way is felt.
func TestLong(t *testing.T) {
	s := strings.Repeat("\xff\"a", 1<<19)
	text, size, ok := quote.Get(quote.Put(s))
	if text != s || size != 2+7*(1<<19) || !ok {
		t.Error(len(text), size, ok)
	}
	if ahead, sep, behind := quote.Cut(s, "b", "aa"); ahead != s || sep != "" || behind != "" {
		t.Error(sep)
	}
}
