package lex_test

import (
	"slices"
	"strings"
	"testing"

	"archivist/api"
	"archivist/lex"
)

type token = lex.Token

func TestKinds(t *testing.T) {
	if lex.Name != 1 || lex.Text != 2 || lex.Value != 3 || lex.Op != 4 {
		t.Error("turned")
	}
}

// TestOps (P7.1) has the ops in their order, in a list of one's own.
func TestOps(t *testing.T) {
	want := []string{"=~", "!~", "!=", "==", ">=", "<=", "|=", "|~", "{", "}", ",", "=", ">", "<", "|"}
	l := lex.Ops()
	if !slices.Equal(l, want) {
		t.Errorf("%q", l)
	}
	l[0] = "x"
	if !slices.Equal(lex.Ops(), want) {
		t.Error("written into")
	}
	for _, op := range want {
		l, at, e := lex.All(op)
		if len(l) != 1 || l[0] != (token{lex.Op, op, 0}) || at != len(op) || e != api.OK {
			t.Errorf("%s: %v", op, l)
		}
	}
}

// TestAll (P7.1, P7.2) has words of all kinds.
func TestAll(t *testing.T) {
	name32 := strings.Repeat("n", 32)
	for s, want := range map[string][]token{
		"":                     nil,
		" \t\n":                nil,
		"a":                    {{lex.Name, "a", 0}},
		" a ":                  {{lex.Name, "a", 1}},
		"_x9Z":                 {{lex.Name, "_x9Z", 0}},
		name32:                 {{lex.Name, name32, 0}},
		"ab cd":                {{lex.Name, "ab", 0}, {lex.Name, "cd", 3}},
		`"a b"`:                {{lex.Text, "a b", 0}},
		`"\n\x00"x""`:          {{lex.Text, "\n\x00", 0}, {lex.Name, "x", 8}, {lex.Text, "", 9}},
		"5":                    {{lex.Value, "5", 0}},
		"-5ms":                 {{lex.Value, "-5ms", 0}},
		"1h30m":                {{lex.Value, "1h30m", 0}},
		"0x1G_a":               {{lex.Value, "0x1G", 0}, {lex.Name, "_a", 4}},
		"5-6":                  {{lex.Value, "5", 0}, {lex.Value, "-6", 1}},
		"a5 5a":                {{lex.Name, "a5", 0}, {lex.Value, "5a", 3}},
		"a-5":                  {{lex.Name, "a", 0}, {lex.Value, "-5", 1}},
		"=~=":                  {{lex.Op, "=~", 0}, {lex.Op, "=", 2}},
		"===~":                 {{lex.Op, "==", 0}, {lex.Op, "=~", 2}},
		">=<=><":               {{lex.Op, ">=", 0}, {lex.Op, "<=", 2}, {lex.Op, ">", 4}, {lex.Op, "<", 5}},
		"||=|~|":               {{lex.Op, "|", 0}, {lex.Op, "|=", 1}, {lex.Op, "|~", 3}, {lex.Op, "|", 5}},
		"!=!~":                 {{lex.Op, "!=", 0}, {lex.Op, "!~", 2}},
		`{app="x", b!~"y"}|=2`: {{lex.Op, "{", 0}, {lex.Name, "app", 1}, {lex.Op, "=", 4}, {lex.Text, "x", 5}, {lex.Op, ",", 8}, {lex.Name, "b", 10}, {lex.Op, "!~", 11}, {lex.Text, "y", 13}, {lex.Op, "}", 16}, {lex.Op, "|=", 17}, {lex.Value, "2", 19}},
	} {
		l, at, e := lex.All(s)
		if !slices.Equal(l, want) || at != len(s) || e != api.OK {
			t.Errorf("%q: %v %d %d", s, l, at, e)
		}
	}
}

// TestNoWords (P7.2) has what is no word, with its place.
func TestNoWords(t *testing.T) {
	name33 := strings.Repeat("n", 33)
	for s, want := range map[string]int{
		"!": 0, "a !": 2, "a ~": 2, "= ~": 2, "-": 0, "--5": 0, "- 5": 0, "a -b": 2, "-_": 0, "5.0": 1, "a\r": 1, "é": 0, "a\x00b": 1, "(": 0, "a;b": 1, "'a'": 0, "`a`": 0, "+5": 0, "x/y": 1,
		`"`: 0, `a "b`: 2, `"\q"`: 0, "\"\n\"": 0, `a"b`: 1, `"a""`: 3, `"\x41"`: 0,
		name33: 0, "a " + name33 + " !": 2, "_" + name33: 0, name33 + `="`: 0, "a ! " + name33: 2, "\v": 0,
	} {
		l, at, e := lex.All(s)
		if len(l) != 0 || at != want || e != api.ErrParse {
			t.Errorf("%q: %v %d %d, not %d", s, l, at, e, want)
		}
	}
}

// TestBig (P7.2) has texts of as many bytes as may be, and of more.
func TestBig(t *testing.T) {
	for i, c := range []struct {
		s  string
		at int
		e  api.Errno
	}{{strings.Repeat(" ", 1024), 1024, api.OK}, {strings.Repeat(" ", 1025), 1024, api.ErrBig}, {strings.Repeat("!", 1025), 1024, api.ErrBig}, {strings.Repeat("!", 1024), 0, api.ErrParse}, {strings.Repeat("=", 5000), 1024, api.ErrBig}} {
		if l, at, e := lex.All(c.s); len(l) != 0 || at != c.at || e != c.e {
			t.Error(i, len(l), at, e)
		}
	}
	if l, _, e := lex.All(strings.Repeat(",", 1024)); len(l) != 1024 || e != api.OK {
		t.Error(len(l), e)
	}
}

// TestSpaces (P7.3) has words with spaces more and less: they stand elsewhere, and are the same.
func TestSpaces(t *testing.T) {
	parts := []string{"{", "a1", "=", `"x y"`, ",", "b", "!~", `"\n"`, "}", "|", "c", ">=", "-5m", "|=", `""`}
	read := func(s string) []token {
		l, at, e := lex.All(s)
		if at != len(s) || e != api.OK {
			t.Fatalf("%q: %d %d", s, at, e)
		}
		behind := 0
		for i := range l {
			if l[i].At < behind {
				t.Errorf("%q: %v stands in another one", s, l[i])
			}
			behind = l[i].At + 1
			l[i].At = 0
		}
		return l
	}
	want := read(strings.Join(parts, " "))
	if len(want) != len(parts) {
		t.Error(want)
	}
	for _, s := range []string{strings.Join(parts, ""), strings.Join(parts, "\n"), "\t " + strings.Join(parts, " \t\n ") + " \n"} {
		if l := read(s); !slices.Equal(l, want) {
			t.Errorf("%q: %v", s, l)
		}
	}
}
