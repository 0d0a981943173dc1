package nfa_test

import (
	"math"
	"math/rand"
	"strings"
	"testing"

	"archivist/api"
	"archivist/nfa"
	"archivist/rex"
)

func of(t *testing.T, s string) *nfa.Prog {
	t.Helper()
	p, at, e := nfa.Of(s)
	if p == nil || at != len(s) || e != api.OK {
		t.Fatalf("%q: %d %d", s, at, e)
	}
	return p
}

// TestWhole (P5.2) has texts that are matched whole, and ones that are not.
func TestWhole(t *testing.T) {
	for s, c := range map[string]struct{ yes, no []string }{
		"":              {[]string{""}, []string{"a", "\n"}},
		"a*":            {[]string{"", "a", "aaa"}, []string{"b", "ab", "ba"}},
		"a+":            {[]string{"a", "aa"}, []string{"", "ab"}},
		"a?b":           {[]string{"b", "ab"}, []string{"", "a", "aab"}},
		"a{2,3}":        {[]string{"aa", "aaa"}, []string{"", "a", "aaaa"}},
		"a{2}":          {[]string{"aa"}, []string{"a", "aaa"}},
		"a{2,}":         {[]string{"aa", "aaaaa"}, []string{"", "a"}},
		"a{0}":          {[]string{""}, []string{"a"}},
		"(ab|c)*d":      {[]string{"d", "abd", "cabcd"}, []string{"", "ab", "acd", "dd"}},
		"a|":            {[]string{"", "a"}, []string{"aa", "b"}},
		"^a$":           {[]string{"a"}, []string{"", "aa"}},
		"a^b":           {nil, []string{"ab", "a", "b", "a^b"}},
		"a$b":           {nil, []string{"ab", "a$b"}},
		"(^|a)b":        {[]string{"b", "ab"}, []string{"aab"}},
		"^$":            {[]string{""}, []string{"a"}},
		"(^a)*":         {[]string{"", "a"}, []string{"aa"}},
		"(a$)*":         {[]string{"", "a"}, []string{"aa"}},
		"(a|^){2}":      {[]string{"", "a", "aa"}, []string{"aaa"}},
		"(a|$){2}b":     {[]string{"aab"}, []string{"ab", "b"}},
		".":             {[]string{"a", "\x00", "\xff", "\r"}, []string{"\n", "", "ab"}},
		"[^a]":          {[]string{"b", "\n", "\xff"}, []string{"a", ""}},
		`\d+\.\d{1,2}`:  {[]string{"1.2", "123.45"}, []string{"1.", ".1", "1.234", "1x2"}},
		"(a*)*":         {[]string{"", "aaa"}, []string{"b"}},
		"(a*b*)+c":      {[]string{"c", "abac", "bac"}, []string{"", "ab", "cc"}},
		"()*":           {[]string{""}, []string{"a"}},
		"(a|ab)(c|bcd)": {[]string{"ac", "abc", "abcd", "abbcd"}, []string{"a", "acd"}},
	} {
		p := of(t, s)
		for _, text := range c.yes {
			if !p.Whole(text) {
				t.Errorf("%q does not match %q", s, text)
			}
		}
		for _, text := range c.no {
			if p.Whole(text) {
				t.Errorf("%q matches %q", s, text)
			}
		}
	}
}

// TestFind (P5.2) has texts in which some part is matched.
func TestFind(t *testing.T) {
	for s, c := range map[string]struct{ yes, no []string }{
		"":       {[]string{"", "a"}, nil},
		"a":      {[]string{"a", "ba", "ab", "xxax"}, []string{"", "b"}},
		"ab+c":   {[]string{"xabbcx", "abc", "ababc"}, []string{"ac", "abx", "ab"}},
		"^a":     {[]string{"a", "ab"}, []string{"", "ba"}},
		"a$":     {[]string{"a", "ba"}, []string{"", "ab", "a\n"}},
		"^a$":    {[]string{"a"}, []string{"ab", "ba", "aa"}},
		"^$":     {[]string{""}, []string{"a"}},
		"^":      {[]string{"", "a"}, nil},
		"$":      {[]string{"", "a"}, nil},
		"a^":     {nil, []string{"a", "aa", ""}},
		"$a":     {nil, []string{"a", "ba", ""}},
		"b|^a":   {[]string{"a", "cb"}, []string{"ca"}},
		"a{3}":   {[]string{"aaa", "baaab"}, []string{"aabaa"}},
		"(^|,)x": {[]string{"x", "a,x", "xa"}, []string{"ax", ","}},
		"x(,|$)": {[]string{"x", "x,a", "ax"}, []string{"xa"}},
		"a*":     {[]string{"", "b"}, nil},
	} {
		p := of(t, s)
		for _, text := range c.yes {
			if !p.Find(text) {
				t.Errorf("%q is not found in %q", s, text)
			}
		}
		for _, text := range c.no {
			if p.Find(text) {
				t.Errorf("%q is found in %q", s, text)
			}
		}
	}
}

// TestOf (P5.1) has what is no expression, and what is too large.
func TestOf(t *testing.T) {
	long := strings.Repeat("a", api.MaxText+1)
	for i, c := range []struct {
		s  string
		at int
		e  api.Errno
	}{{"a)", 1, api.ErrParse}, {"(", 1, api.ErrParse}, {"a[", 1, api.ErrParse}, {long, api.MaxText, api.ErrBig}, {"(a{20}){20}", 11, api.ErrBig}} {
		if p, at, e := nfa.Of(c.s); p != nil || at != c.at || e != c.e {
			t.Error(i, at, e)
		}
	}
	p := of(t, "(a)[bc]{2,}|x")
	if p.Size() != 6 || p.Text() != "a[b-c]{2,}|x" {
		t.Error(p.Size(), p.Text())
	}
}

func one(bytes string) rex.Node {
	n := rex.Node{Kind: rex.One}
	for i := range len(bytes) {
		n.Set = n.Set.With(bytes[i], bytes[i])
	}
	return n
}

func repeat(low, high int, kid rex.Node) rex.Node {
	return rex.Node{Kind: rex.Repeat, Min: low, Max: high, Kids: []rex.Node{kid}}
}

// TestCompile (P5.1) has nodes that are not right, and ones that are too large.
func TestCompile(t *testing.T) {
	a := one("a")
	for i, n := range []rex.Node{{Kind: 7}, {Kind: rex.One}, repeat(0, 21, a), repeat(0, 0, rex.Node{Kind: rex.Cat}), {Kind: rex.Cat, Kids: []rex.Node{a}}, repeat(0, -1, repeat(20, 20, repeat(20, 20, repeat(2, 1, a))))} {
		if p, e := nfa.Compile(n); p != nil || e != api.ErrArg {
			t.Error(i, e)
		}
	}
	if p, e := nfa.Compile(repeat(20, 20, repeat(10, 10, a))); p == nil || e != api.OK || p.Size() != 200 || p.Text() != "(a{10}){20}" {
		t.Error(e)
	}
	if p, e := nfa.Compile(repeat(20, 20, repeat(0, -1, repeat(10, 10, a)))); p != nil || e != api.ErrBig {
		t.Error(e)
	}
	// It is no normal form, and matches all the same.
	p, e := nfa.Compile(rex.Node{Kind: rex.Cat, Kids: []rex.Node{{}, {Kind: rex.Cat, Kids: []rex.Node{a, {}}}}})
	if e != api.OK || !p.Whole("a") || p.Whole("") || p.Size() != 1 {
		t.Error(e)
	}
}

// TestNotKept (P3) writes into a node behind its program's back.
func TestNotKept(t *testing.T) {
	n := rex.Node{Kind: rex.Cat, Kids: []rex.Node{one("a"), repeat(2, 2, one("b"))}}
	p, _ := nfa.Compile(n)
	n.Kids[0], n.Kids[1].Kids[0] = one("x"), one("y")
	if !p.Whole("abb") || p.Text() != "ab{2}" {
		t.Error(p.Text())
	}
}

// ends tells where the parts of s that n matches from a place on end: the document's words, at any cost.
func ends(n rex.Node, s string, from int) map[int]bool {
	to := map[int]bool{}
	switch n.Kind {
	case rex.Empty:
		to[from] = true
	case rex.One:
		if from < len(s) && n.Set.Has(s[from]) {
			to[from+1] = true
		}
	case rex.Begin:
		if from == 0 {
			to[0] = true
		}
	case rex.End:
		if from == len(s) {
			to[from] = true
		}
	case rex.Cat:
		to[from] = true
		for _, kid := range n.Kids {
			to = each(kid, s, to)
		}
	case rex.Alt:
		for _, kid := range n.Kids {
			for at := range ends(kid, s, from) {
				to[at] = true
			}
		}
	case rex.Repeat:
		high := n.Max
		if high < 0 {
			high = n.Min + len(s) + 1
		}
		now := map[int]bool{from: true}
		for k := 0; k <= high; k++ {
			for at := range now {
				to[at] = to[at] || k >= n.Min
			}
			now = each(n.Kids[0], s, now)
		}
		for at, yes := range to {
			if !yes {
				delete(to, at)
			}
		}
	}
	return to
}

func each(n rex.Node, s string, from map[int]bool) map[int]bool {
	to := map[int]bool{}
	for at := range from {
		for next := range ends(n, s, at) {
			to[next] = true
		}
	}
	return to
}

func some(rnd *rand.Rand, deep int) rex.Node {
	if deep == 0 {
		switch rnd.Intn(8) {
		case 0:
			return rex.Node{}
		case 1:
			return rex.Node{Kind: rex.Begin}
		case 2:
			return rex.Node{Kind: rex.End}
		case 3:
			return one("ab")
		case 4:
			return one("b")
		}
		return one("a")
	}
	n := rex.Node{Kind: rex.Cat + rnd.Intn(3)}
	kids := 2 + rnd.Intn(2)
	if n.Kind == rex.Repeat {
		kids = 1
		n.Min, n.Max = rnd.Intn(3), -1
		if rnd.Intn(2) == 0 {
			n.Max = n.Min + rnd.Intn(3)
		}
	}
	for range kids {
		n.Kids = append(n.Kids, some(rnd, rnd.Intn(deep)))
	}
	return n
}

// TestAgainstWords (P5.2, P5.4) holds programs of many nodes against the document's words.
func TestAgainstWords(t *testing.T) {
	rnd := rand.New(rand.NewSource(5))
	texts := []string{"", "a", "b", "aa", "ab", "ba", "aab", "aba", "abab", "bbaa", "aaaaa", "c"}
	for range 4000 {
		n := some(rnd, 4)
		p, e := nfa.Compile(n)
		if e != api.OK {
			continue
		}
		if p.Size() != rex.Size(n) || p.Text() != rex.Put(n) {
			t.Fatalf("%s: %d", p.Text(), p.Size())
		}
		for _, s := range texts {
			found := false
			for from := range len(s) + 1 {
				found = found || len(ends(n, s, from)) > 0
			}
			if whole := ends(n, s, 0)[len(s)]; p.Whole(s) != whole || p.Find(s) != found {
				t.Fatalf("%+v in %q: whole is %t, found is %t", n, s, whole, found)
			}
		}
	}
}

// TestStands (P5.4): what is matched whole is found in something longer.
func TestStands(t *testing.T) {
	for _, s := range []string{"a+b", "(ab|c){2,3}", "[a-c]*c", "a|bc"} {
		p := of(t, s)
		for _, text := range []string{"ab", "aab", "abc", "cc", "a", "bc", "abcab", "acc"} {
			if p.Whole(text) && (!p.Find(text) || !p.Find("x"+text) || !p.Find(text+"x") || !p.Find("xx"+text+"\n")) {
				t.Errorf("%q in %q", s, text)
			}
		}
	}
}

// TestFewStates (P5.3) has nodes that would need more states than there are, were each time of nothing one.
func TestFewStates(t *testing.T) {
	blank := rex.Node{}
	for range 50 {
		blank = repeat(20, 20, rex.Node{Kind: rex.Cat, Kids: []rex.Node{blank, repeat(0, 0, one("a"))}})
	}
	n := repeat(20, 20, repeat(5, 5, rex.Node{Kind: rex.Cat, Kids: []rex.Node{blank, repeat(0, 1, one("a")), blank}}))
	p, e := nfa.Compile(n)
	if e != api.OK || p.Size() != 200 || !p.Whole("") || !p.Whole(strings.Repeat("a", 100)) || p.Whole(strings.Repeat("a", 101)) {
		t.Error(e)
	}
	both := rex.Node{Kind: rex.Alt, Kids: []rex.Node{blank, blank}}
	n = repeat(20, 20, repeat(2, 2, rex.Node{Kind: rex.Alt, Kids: []rex.Node{repeat(20, 20, blank), {Kind: rex.Cat, Kids: []rex.Node{blank, one("a")}}, both}}))
	if p, e := nfa.Compile(n); e != api.OK || !p.Whole("") || !p.Whole(strings.Repeat("a", 40)) || p.Whole(strings.Repeat("a", 41)) {
		t.Error(e)
	}
	deep := one("a")
	for range 99000 {
		deep = repeat(1, 1, deep)
	}
	if p, e := nfa.Compile(deep); e != api.OK || p.Size() != 1 || !p.Whole("a") || p.Find("b") {
		t.Error(e)
	}
	kids := make([]rex.Node, 200000)
	kids[100] = one("a")
	if p, e := nfa.Compile(repeat(20, 20, repeat(10, 10, rex.Node{Kind: rex.Cat, Kids: kids}))); e != api.OK || !p.Whole(strings.Repeat("a", 200)) {
		t.Error(e)
	}
}

// TestLinear (P5.3) has texts at which one that tries all would never end.
func TestLinear(t *testing.T) {
	text := strings.Repeat("a", 100000)
	for s, want := range map[string]bool{"(a*)*b": false, "(a|a)*b": false, "(a?){20}a{20}b": false, "(a|aa)+$": true, "((a*)*)*": true, "(.*a){8}b": false} {
		p := of(t, s)
		if p.Whole(text) != want || p.Find(text) != want {
			t.Error(s)
		}
	}
}

// TestAnyNode (P1) compiles nodes that may be anything: what is right, and not too large, has a program.
func TestAnyNode(t *testing.T) {
	rnd := rand.New(rand.NewSource(6))
	numbers := []int{0, 0, 0, 1, 2, 20, 21, -1, -2, math.MinInt, math.MaxInt}
	var any func(deep int) rex.Node
	any = func(deep int) rex.Node {
		n := rex.Node{Kind: rnd.Intn(9) - 1, Min: numbers[rnd.Intn(len(numbers))], Max: numbers[rnd.Intn(len(numbers))]}
		if rnd.Intn(2) == 0 {
			n.Set = n.Set.With(byte(rnd.Intn(256)), byte(rnd.Intn(256)))
		}
		for range rnd.Intn(deep + 1) {
			n.Kids = append(n.Kids, any(deep-1))
		}
		return n
	}
	for range 20000 {
		n := any(3)
		p, e := nfa.Compile(n)
		want := api.OK
		if !rex.Right(n) {
			want = api.ErrArg
		} else if rex.Size(n) > api.MaxRex {
			want = api.ErrBig
		}
		if e != want || (p == nil) != (e != api.OK) {
			t.Fatalf("%+v: %d, not %d", n, e, want)
		}
	}
}
