package label_test

import (
	"math/rand"
	"strings"
	"testing"

	"archivist/api"
	"archivist/label"
)

type pair = label.Pair

func same(t *testing.T, what string, got, want label.Set) {
	t.Helper()
	if len(got) != len(want) {
		t.Errorf("%s: %v, not %v", what, got, want)
		return
	}
	for i := range want {
		if got[i] != want[i] {
			t.Errorf("%s: %v, not %v", what, got, want)
		}
	}
}

// TestName (P6.1) has names, and what is none.
func TestName(t *testing.T) {
	name32 := "_" + strings.Repeat("a", 31)
	for _, s := range []string{"a", "Z", "_", "a1", "_9", "aZ_09", "logfmt", name32} {
		if !label.Name(s) {
			t.Errorf("%q is one", s)
		}
	}
	for _, s := range []string{"", "1", "1a", "a-b", "a b", "a.b", "é", "a\x00", "a=", " a", "a\n", name32 + "a", "@", "[", "`", "{", "/", ":", "a:"} {
		if label.Name(s) {
			t.Errorf("%q is none", s)
		}
	}
}

// many tells n pairs whose names rise.
func many(n int) label.Set {
	var s label.Set
	for i := range n {
		s = append(s, pair{"n" + string(rune('a'+i)), "v"})
	}
	return s
}

// TestRight (P6.1) has sets right, and wrong by one thing.
func TestRight(t *testing.T) {
	long := strings.Repeat("v", api.MaxText)
	for i, s := range []label.Set{nil, {}, {{"a", ""}}, {{"a", long}}, {{"A", "1"}, {"_", "2"}, {"a", "3"}, {"a1", "4"}}, many(api.MaxLabels)} {
		if !label.Right(s) {
			t.Error("right", i)
		}
	}
	for i, s := range []label.Set{{{"", ""}}, {{"1", ""}}, {{"a", long + "v"}}, {{"a", "1"}, {"a", "2"}}, {{"b", ""}, {"a", ""}}, {{"a", ""}, {"b", ""}, {"a1", ""}}, many(api.MaxLabels + 1)} {
		if label.Right(s) {
			t.Error("wrong", i)
		}
	}
}

// TestOf (P6.1) has pairs in any order, some of no name.
func TestOf(t *testing.T) {
	same(t, "nothing", label.Of(), nil)
	same(t, "no names", label.Of(pair{"1", "a"}, pair{"", "b"}), nil)
	same(t, "some", label.Of(pair{"b", "1"}, pair{"a", "2"}, pair{"-", "x"}, pair{"b", "3"}, pair{"B", "4"}, pair{"a", "2"}, pair{"b", ""}), label.Set{{"B", "4"}, {"a", "2"}, {"b", ""}})
	same(t, "more than may be", label.Of(many(20)...), many(20))
	long := strings.Repeat("v", api.MaxText+1)
	same(t, "a long value", label.Of(pair{"a", long}), label.Set{{"a", long}})
}

// TestGet (P6.1) has names that are there, twice, and not.
func TestGet(t *testing.T) {
	s := label.Set{{"b", "1"}, {"a", "2"}, {"b", "3"}, {"", "4"}, {"c", ""}}
	for name, want := range map[string]string{"b": "1", "a": "2", "": "4", "c": ""} {
		if got, ok := s.Get(name); got != want || !ok {
			t.Errorf("%q: %q %t", name, got, ok)
		}
	}
	for _, name := range []string{"d", "B", "bb"} {
		if got, ok := s.Get(name); got != "" || ok {
			t.Errorf("%q: %q", name, got)
		}
	}
	if got, ok := label.Set(nil).Get(""); got != "" || ok {
		t.Error("of nothing")
	}
}

// TestWith (P6.1) has pairs that come to others.
func TestWith(t *testing.T) {
	same(t, "nothing", label.Set(nil).With(), nil)
	same(t, "some", label.Set{{"b", "1"}, {"a", "2"}}.With(pair{"b", "3"}, pair{"c", "4"}, pair{"?", "5"}), label.Set{{"a", "2"}, {"b", "3"}, {"c", "4"}})
	same(t, "of itself", label.Set{{"b", "1"}, {"b", "2"}, {"1", "3"}}.With(), label.Set{{"b", "2"}})
}

// TestUntouched (P3) has a list with room behind it, and one that is written into later.
func TestUntouched(t *testing.T) {
	room := []pair{{"b", "1"}, {"a", "2"}, {"y", "y"}, {"x", "x"}}
	l := room[:2]
	s := label.Set(l).With(pair{"c", "3"})
	of := label.Of(l...)
	same(t, "room", room, label.Set{{"b", "1"}, {"a", "2"}, {"y", "y"}, {"x", "x"}})
	room[0], room[1] = pair{"z", "z"}, pair{"z", "z"}
	same(t, "with", s, label.Set{{"a", "2"}, {"b", "1"}, {"c", "3"}})
	same(t, "of", of, label.Set{{"a", "2"}, {"b", "1"}})
}

// TestText (P6.2) has sets, right or not.
func TestText(t *testing.T) {
	for i, c := range []struct {
		s    label.Set
		want string
	}{
		{nil, "{}"}, {label.Set{{"a", "b"}}, `{a="b"}`}, {label.Set{{"a", ""}, {"b", "\"\n}"}}, `{a="",b="\"\n}"}`}, {label.Set{{"z", "1"}, {"a", "2"}, {"z", "\xff"}}, `{z="1",a="2",z="\xff"}`},
	} {
		if got := c.s.Text(); got != c.want {
			t.Errorf("%d: %s", i, got)
		}
	}
}

// TestParse (P6.2) has sets, and what is none.
func TestParse(t *testing.T) {
	for s, want := range map[string]label.Set{
		"{}": nil, "{}}": nil, `{a="b"}`: {{"a", "b"}}, `{a="b"},{c="d"}`: {{"a", "b"}}, `{A="",_b="}\"",c9="\x00"} x`: {{"A", ""}, {"_b", "}\""}, {"c9", "\x00"}},
	} {
		got, size, ok := label.Parse(s)
		same(t, s, got, want)
		if !ok || size != len(want.Text()) {
			t.Errorf("%q: %d %t", s, size, ok)
		}
	}
	for _, s := range []string{
		"", "{", "}", "a", " {}", "{ }", "{,}", `{a}`, `{a=}`, `{a=b}`, `{="b"}`, `{1="b"}`, `{a="b"`, `{a="b",}`, `{a="b",`, `{,a="b"}`, `{a="b" }`, `{a ="b"}`, `{a= "b"}`, `{a="b", c="d"}`, `{a="b";c="d"}`,
		`{a="b"c="d"}`, `{b="1",a="2"}`, `{a="1",a="2"}`, `{a="1",a="1"}`, `{a-b="1"}`, `{a="\x41"}`, `{a="b}`, `{a=="b"}`, "{" + strings.Repeat("a", 33) + `="b"}`, many(api.MaxLabels + 1).Text(),
		label.Set{{"a", strings.Repeat("v", api.MaxText+1)}}.Text(), `(a="b"}`, `{a="b")`,
	} {
		if got, size, ok := label.Parse(s); len(got) != 0 || size != 0 || ok {
			t.Errorf("%q: %v %d %t", s, got, size, ok)
		}
	}
}

// TestOrder (P6.2) has sets that rise.
func TestOrder(t *testing.T) {
	l := []label.Set{nil, {{"", ""}}, {{"A", "z"}}, {{"a", ""}}, {{"a", ""}, {"b", ""}}, {{"a", "1"}}, {{"a", "1"}, {"a", "0"}}, {{"a", "1"}, {"b", "1"}, {"c", ""}}, {{"a", "1"}, {"b", "2"}}, {{"a", "1"}, {"c", "0"}}, {{"a", "11"}}, {{"a", "2"}}, {{"aa", ""}}, {{"b", "\x7f"}}, {{"b", "\xff"}}}
	for i, a := range l {
		for k, b := range l {
			want := 0
			if i < k {
				want = -1
			} else if i > k {
				want = 1
			}
			if got := label.Order(a, b); got != want || label.Same(a, b) != (want == 0) {
				t.Errorf("%v and %v: %d", a, b, got)
			}
		}
	}
	if label.Order(label.Set{}, nil) != 0 || !label.Same(label.Set{}, nil) {
		t.Error("nothing")
	}
}

// TestThereAndBack (P6.3) tells sets, and reads them with anything behind; what is put in whatever order is one set.
func TestThereAndBack(t *testing.T) {
	rnd := rand.New(rand.NewSource(6))
	names := []string{"a", "b", "_", "Ab", "a1", "app", "level", "x_y"}
	values := []string{"", "1", "\"", "}", ",", "\\", "\n", "\x00\xff", "a=b"}
	for range 2000 {
		var l []pair
		for _, i := range rnd.Perm(len(names))[:rnd.Intn(len(names))] {
			l = append(l, pair{names[i], values[rnd.Intn(len(values))]})
		}
		s := label.Of(l...)
		rnd.Shuffle(len(l), func(i, k int) { l[i], l[k] = l[k], l[i] })
		same(t, "shuffled", label.Of(l...), s)
		for _, tail := range []string{"", "}", ",", "{}", "\"", `,a="b"}`} {
			got, size, ok := label.Parse(s.Text() + tail)
			same(t, "parsed", got, s)
			if !ok || size != len(s.Text()) || !label.Right(s) {
				t.Fatalf("%s and %q: %d", s.Text(), tail, size)
			}
		}
		for i := range s.Text() {
			if _, _, ok := label.Parse(s.Text()[:i]); ok {
				t.Fatalf("%s is cut at %d", s.Text(), i)
			}
		}
	}
}
