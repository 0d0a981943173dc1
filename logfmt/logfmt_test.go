package logfmt_test

import (
	"math/rand"
	"slices"
	"strconv"
	"strings"
	"testing"

	"archivist/api"
	"archivist/label"
	"archivist/logfmt"
)

// pairs tells those of names and values, by turns.
func pairs(l ...string) []label.Pair {
	var out []label.Pair
	for i := 0; i < len(l); i += 2 {
		out = append(out, label.Pair{Name: l[i], Value: l[i+1]})
	}
	return out
}

// TestAll (P10.1, P10.2) has lines of any form.
func TestAll(t *testing.T) {
	long := strings.Repeat("v", api.MaxText)
	for s, want := range map[string][]label.Pair{
		"": nil, " \t\n": nil, "a": pairs("a", ""), "a=1 b": pairs("a", "1", "b", ""), "a=": pairs("a", ""), "a= b": pairs("a", "", "b", ""), "a =b": pairs("a", "", "b", ""), "a = b": pairs("a", "", "b", ""),
		"a=1\tb=2\nc=3": pairs("a", "1", "b", "2", "c", "3"), "  a=1  ": pairs("a", "1"), "a=b=c": pairs("a", "b=c"), "a==b": pairs("a", "=b"), "a=1,b=2": pairs("a", "1,b=2"),
		`a="b c" d=e`: pairs("a", "b c", "d", "e"), `a=""`: pairs("a", ""), `a="\"\n" b`: pairs("a", "\"\n", "b", ""), `a="b"c=d`: pairs("a", "b", "c", "d"), `a="b""c"`: pairs("a", "b", "c", ""),
		`a="b`: pairs("a", `"b`), `a="b c`: pairs("a", `"b`, "c", ""), `a="\q c" d`: pairs("a", `"\q`, "c", "", "d", ""), "a=\"\xff\"": pairs("a", "\"\xff\""), `a=b"c" d`: pairs("a", `b"c"`, "d", ""), "a=\"b\tc\"": pairs("a", `"b`, "c", ""),
		"=": nil, "==": nil, "=a": pairs("a", ""), "=a=1": pairs("a", "1"), `"`: nil, `"a" b`: pairs("a", "", "b", ""), `"a b" c=1`: pairs("a", "", "b", "", "c", "1"), `="x y"`: pairs("x", "", "y", ""), `a"b=1`: pairs("a", "", "b", "1"),
		"1=a b=2": pairs("b", "2"), "a-b=1 c": pairs("c", ""), "a.b c=1": pairs("c", "1"), "é=1 b": pairs("b", ""), strings.Repeat("n", 33) + "=1 " + strings.Repeat("n", 32) + "=2": pairs(strings.Repeat("n", 32), "2"), "a\r=1 b": pairs("b", ""), "a\x00": nil, "(a=1)": nil,
		"a=1 a=2 a": pairs("a", "1", "a", "2", "a", ""), "b=1 a=2": pairs("b", "1", "a", "2"), "a=1\r\n": pairs("a", "1\r"),
		"a=" + long: pairs("a", long), "a=" + long + "v b=1": pairs("b", "1"), `a="` + long + `v" b="` + long + `"`: pairs("b", long),
	} {
		if got := logfmt.All(s); !slices.Equal(got, want) {
			t.Errorf("%q: %q, not %q", s, got, want)
		}
	}
}

// fields tells a line of n fields, from one on.
func fields(first, n int) string {
	var l []string
	for i := range n {
		l = append(l, "f"+strconv.Itoa(100+first+i)+"=v")
	}
	return strings.Join(l, " ")
}

// TestMost (P10.2) has lines of more fields than are told.
func TestMost(t *testing.T) {
	if l := logfmt.All(fields(0, 64)); len(l) != 64 {
		t.Error(len(l))
	}
	if l := logfmt.All("1=x - " + fields(0, 70)); len(l) != 64 || l[0].Name != "f100" || l[63].Name != "f163" {
		t.Error(l)
	}
	if s := logfmt.Of(fields(10, 30)); len(s) != 16 || s[0].Name != "f110" || s[15].Name != "f125" {
		t.Error(s)
	}
	// The least names are told, wherever they stand; what All leaves out is not.
	if s := logfmt.Of(fields(50, 20) + " " + fields(0, 10)); len(s) != 16 || s[0].Name != "f100" || s[10].Name != "f150" {
		t.Error(s)
	}
	if s := logfmt.Of(fields(0, 64) + " a=1"); s[0].Name != "f100" {
		t.Error(s)
	}
	if s := logfmt.Of(strings.Repeat("b=1 ", 63) + "a=1 a=2"); len(s) != 2 || s[0].Value != "1" {
		t.Error(s)
	}
}

// TestOf (P10.2) has names that stand twice.
func TestOf(t *testing.T) {
	for s, want := range map[string][]label.Pair{
		"": nil, "b=1 a=2 b=3 a=": pairs("a", "2", "b", "1"), "a a=1": pairs("a", ""), "z=1 1=2 A=3": pairs("A", "3", "z", "1"),
	} {
		if got := logfmt.Of(s); !slices.Equal([]label.Pair(got), want) || !label.Right(got) {
			t.Errorf("%q: %q", s, got)
		}
	}
}

// TestPut (P10.3) has pairs of any number.
func TestPut(t *testing.T) {
	if got := logfmt.Put(); got != "" {
		t.Error(got)
	}
	if got := logfmt.Put(pairs("a", "1", "b", "x y\n", "a", "")...); got != `a="1" b="x y\n" a=""` {
		t.Error(got)
	}
}

// TestThereAndBack (P10.4) puts pairs that may be, and is told all of them.
func TestThereAndBack(t *testing.T) {
	rnd := rand.New(rand.NewSource(11))
	names := []string{"a", "_b", "C9", "level"}
	values := []string{"", "1", " ", "\"", "\\", "\n\t", "a=b c", "\x00\xff", strings.Repeat("\"", 256)}
	for range 1000 {
		l := make([]label.Pair, rnd.Intn(65))
		for i := range l {
			l[i] = label.Pair{Name: names[rnd.Intn(len(names))], Value: values[rnd.Intn(len(values))]}
		}
		if got := logfmt.All(logfmt.Put(l...)); !slices.Equal(got, l) {
			t.Fatalf("%q: %q", l, got)
		}
	}
}

// TestLong (P1) has lines of many bytes.
func TestLong(t *testing.T) {
	for _, part := range []string{"=", `"`, `a-="`, `- `, `-="\q`, " "} {
		if l := logfmt.All(strings.Repeat(part, 1<<18)); len(l) > 1 {
			t.Errorf("%q: %d", part, len(l))
		}
	}
}
