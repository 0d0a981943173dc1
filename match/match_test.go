package match_test

import (
	"strings"
	"testing"

	"archivist/api"
	"archivist/ast"
	"archivist/label"
	"archivist/match"
)

func matcher(name, op, value string) ast.Matcher {
	return ast.Matcher{Name: name, Op: op, Value: value}
}

func set(l ...string) label.Set {
	var s label.Set
	for i := 0; i < len(l); i += 2 {
		s = append(s, label.Pair{Name: l[i], Value: l[i+1]})
	}
	return s
}

// TestOne (P11.1, P11.4) holds each op, and its contrary, against values.
func TestOne(t *testing.T) {
	for i, c := range []struct {
		op, contrary, value string
		yes, no             []string
	}{
		{"=", "!=", "ab", []string{"ab"}, []string{"", "a", "abc", "xab", "AB", "a.b"}},
		{"=", "!=", "", []string{""}, []string{"a", "\x00"}},
		{"=", "!=", "a.*", []string{"a.*"}, []string{"a", "ab"}},
		{"=~", "!~", "a.*", []string{"a", "ab", "a.*"}, []string{"", "ba", "a\n"}},
		{"=~", "!~", "a|bc", []string{"a", "bc"}, []string{"ac", "abc", "xa"}},
		{"=~", "!~", "", []string{""}, []string{"a"}},
		{"=~", "!~", "^a$", []string{"a"}, []string{"aa"}},
		{"=~", "!~", ".*", []string{"", strings.Repeat("x", 1000)}, []string{"\n"}},
	} {
		one, e := match.Of(matcher("n", c.op, c.value))
		other, e2 := match.Of(matcher("n", c.contrary, c.value))
		if e != api.OK || e2 != api.OK || one.Name() != "n" {
			t.Fatal(i, e, e2)
		}
		for _, s := range c.yes {
			if !one.Test(s) || other.Test(s) {
				t.Errorf("%d: %q", i, s)
			}
		}
		for _, s := range c.no {
			if one.Test(s) || !other.Test(s) {
				t.Errorf("%d: not %q", i, s)
			}
		}
	}
}

// TestWrong (P11.1, P11.2, P11.3) has what is not right.
func TestWrong(t *testing.T) {
	for i, m := range []ast.Matcher{{}, matcher("1", "=", "x"), matcher("a", "|=", "x"), matcher("a", "=~", "("), matcher("a", "!~", "(a{20}){20}"), matcher("a", "=", strings.Repeat("v", 257)), matcher("a", "", "x")} {
		if o, e := match.Of(m); o != nil || e != api.ErrArg {
			t.Error(i, e)
		}
		for _, l := range [][]ast.Matcher{{m}, {matcher("a", "=", "b"), m}, {m, matcher("a", "=", "b")}} {
			if a, e := match.Every(l...); a != nil || e != api.ErrArg {
				t.Error(i, e)
			}
		}
	}
	for i, s := range []ast.Stage{{}, {Kind: ast.Logfmt}, {Kind: ast.Label, Name: "a", Op: "!=", Value: "x"}, {Kind: ast.Compare, Name: "a", Op: "!="}, {Kind: ast.Line, Op: "=", Value: "x"}, {Kind: ast.Line, Op: "|~", Value: "("}, {Kind: ast.Line, Op: "|=", Value: "x", Num: 1}, {Kind: ast.Line, Op: "|=", Value: strings.Repeat("v", 257)}, {Kind: 5, Op: "|="}} {
		if l, e := match.LineOf(s); l != nil || e != api.ErrArg {
			t.Error(i, e)
		}
	}
}

// TestAll (P11.2) has matchers together, of labels that are there, and that are not.
func TestAll(t *testing.T) {
	for i, c := range []struct {
		l    []ast.Matcher
		s    label.Set
		want bool
	}{
		{nil, nil, true}, {nil, set("a", "b"), true},
		{[]ast.Matcher{matcher("a", "=", "b")}, set("a", "b"), true}, {[]ast.Matcher{matcher("a", "=", "b")}, set("b", "b"), false}, {[]ast.Matcher{matcher("a", "=", "b")}, nil, false},
		{[]ast.Matcher{matcher("a", "=", "")}, nil, true}, {[]ast.Matcher{matcher("a", "!=", "")}, nil, false}, {[]ast.Matcher{matcher("a", "!=", "b")}, set("b", "b"), true}, {[]ast.Matcher{matcher("a", "=~", "x*")}, set("b", "y"), true}, {[]ast.Matcher{matcher("a", "!~", "x*")}, nil, false}, {[]ast.Matcher{matcher("a", "=~", "x+")}, nil, false},
		{[]ast.Matcher{matcher("a", "=", "1"), matcher("b", "=", "2")}, set("a", "1", "b", "2"), true}, {[]ast.Matcher{matcher("a", "=", "1"), matcher("b", "=", "2")}, set("a", "1", "b", "3"), false}, {[]ast.Matcher{matcher("a", "=", "1"), matcher("b", "=", "2")}, set("a", "0", "b", "2"), false}, {[]ast.Matcher{matcher("a", "=", "1"), matcher("a", "=", "2")}, set("a", "1"), false},
		// Of labels that are no right set the first of a name counts.
		{[]ast.Matcher{matcher("a", "=", "1")}, set("b", "0", "a", "1", "a", "2"), true}, {[]ast.Matcher{matcher("a", "=", "2")}, set("a", "1", "a", "2"), false},
	} {
		a, e := match.Every(c.l...)
		if e != api.OK || a.Many() != len(c.l) {
			t.Fatal(i, e)
		}
		if got := a.Test(c.s); got != c.want {
			t.Errorf("%d: %t", i, got)
		}
	}
	var nine []ast.Matcher
	for range 9 {
		nine = append(nine, matcher("a", "=", "b"))
	}
	if a, e := match.Every(nine...); e != api.OK || a.Many() != 9 {
		t.Error(e)
	}
}

// TestNotKept (P3) writes into matchers behind their back.
func TestNotKept(t *testing.T) {
	l := []ast.Matcher{matcher("a", "=", "b")}
	a, _ := match.Every(l...)
	l[0] = matcher("c", "=", "d")
	if !a.Test(set("a", "b")) || a.Test(set("c", "d")) {
		t.Error("kept")
	}
}

// TestLine (P11.3, P11.4) holds each op of lines, and its contrary, against lines.
func TestLine(t *testing.T) {
	for i, c := range []struct {
		op, contrary, value string
		yes, no             []string
	}{
		{"|=", "!=", "ab", []string{"ab", "xab", "abx", "aab"}, []string{"", "a", "a b", "AB", "ba"}},
		{"|=", "!=", "", []string{"", "a"}, nil},
		{"|=", "!=", "a.", []string{"xa.x"}, []string{"ab"}},
		{"|=", "!=", "\n", []string{"a\nb"}, []string{"ab"}},
		{"|~", "!~", "a.c", []string{"abc", "xa-cx"}, []string{"ac", "a\nc", ""}},
		{"|~", "!~", "^a", []string{"ab"}, []string{"ba"}},
		{"|~", "!~", "a$", []string{"ba"}, []string{"ab"}},
		{"|~", "!~", "", []string{"", "x"}, nil},
	} {
		one, e := match.LineOf(ast.Stage{Kind: ast.Line, Op: c.op, Value: c.value})
		other, e2 := match.LineOf(ast.Stage{Kind: ast.Line, Op: c.contrary, Value: c.value})
		if e != api.OK || e2 != api.OK {
			t.Fatal(i, e, e2)
		}
		for _, s := range c.yes {
			if !one.Test(s) || other.Test(s) {
				t.Errorf("%d: %q", i, s)
			}
		}
		for _, s := range c.no {
			if one.Test(s) || !other.Test(s) {
				t.Errorf("%d: not %q", i, s)
			}
		}
	}
}
