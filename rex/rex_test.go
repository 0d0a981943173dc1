package rex_test

import (
	"math"
	"math/rand"
	"strings"
	"testing"

	"archivist/api"
	"archivist/rex"
)

func set(bytes string) rex.Set {
	var s rex.Set
	for i := range len(bytes) {
		s = s.With(bytes[i], bytes[i])
	}
	return s
}

func one(bytes string) rex.Node { return rex.Node{Kind: rex.One, Set: set(bytes)} }

func span(low, high byte) rex.Node {
	return rex.Node{Kind: rex.One, Set: rex.Set{}.With(low, high)}
}

func cat(kids ...rex.Node) rex.Node { return rex.Node{Kind: rex.Cat, Kids: kids} }
func alt(kids ...rex.Node) rex.Node { return rex.Node{Kind: rex.Alt, Kids: kids} }

func repeat(low, high int, kids ...rex.Node) rex.Node {
	return rex.Node{Kind: rex.Repeat, Min: low, Max: high, Kids: kids}
}

func not(bytes string) rex.Node {
	n := rex.Node{Kind: rex.One, Set: rex.Set{}.With(0, 255)}
	for i := range len(bytes) {
		n.Set[bytes[i]/64] &^= 1 << (bytes[i] % 64)
	}
	return n
}

var (
	empty = rex.Node{}
	begin = rex.Node{Kind: rex.Begin}
	end   = rex.Node{Kind: rex.End}
	a     = one("a")
	b     = one("b")
	c     = one("c")
)

func TestKinds(t *testing.T) {
	if rex.Empty != 0 || rex.One != 1 || rex.Begin != 2 || rex.End != 3 || rex.Cat != 4 || rex.Alt != 5 || rex.Repeat != 6 {
		t.Error("turned")
	}
}

// TestSet (P4.1) holds sets against lists of bools.
func TestSet(t *testing.T) {
	for _, r := range [][2]int{{0, 0}, {0, 255}, {255, 255}, {63, 64}, {127, 128}, {10, 9}, {255, 0}, {1, 200}, {191, 192}, {97, 122}} {
		old := rex.Set{1, 0, 1 << 63, 0}
		s := old.With(byte(r[0]), byte(r[1]))
		many := 0
		for x := range 256 {
			want := x == 0 || x == 191 || x >= r[0] && x <= r[1]
			if s.Has(byte(x)) != want {
				t.Errorf("%v: %d", r, x)
			}
			if want {
				many++
			}
		}
		if s.Many() != many || old.Many() != 2 {
			t.Errorf("%v: %d", r, s.Many())
		}
	}
	if s := (rex.Set{1 << 5, 1 << 6, 0, 1 << 63}); !s.Has(5) || !s.Has(70) || !s.Has(255) || s.Has(69) || s.Many() != 3 || (rex.Set{}).Many() != 0 {
		t.Error("bits")
	}
}

// TestSame (P4.1) turns each thing that a node has.
func TestSame(t *testing.T) {
	base := func() rex.Node { return cat(a, repeat(1, 2, alt(b, c)), empty) }
	if !rex.Same(base(), base()) || !rex.Same(empty, rex.Node{Kids: []rex.Node{}}) {
		t.Error("the same")
	}
	for i, turn := range []func(n *rex.Node){
		func(n *rex.Node) { n.Kind = rex.Alt }, func(n *rex.Node) { n.Set[3] = 1 }, func(n *rex.Node) { n.Min = 1 }, func(n *rex.Node) { n.Max = 1 },
		func(n *rex.Node) { n.Kids = n.Kids[:2] }, func(n *rex.Node) { n.Kids = append(n.Kids, a) }, func(n *rex.Node) { n.Kids[0] = b },
		func(n *rex.Node) { n.Kids[1].Max = 3 }, func(n *rex.Node) { n.Kids[1].Kids[0].Kids[1] = a }, func(n *rex.Node) { n.Kids[2].Kind = rex.Begin },
	} {
		n := base()
		turn(&n)
		if rex.Same(base(), n) || rex.Same(n, base()) {
			t.Error(i)
		}
	}
}

// forms (P4.2, P4.3, P4.5): what is read, its normal form, and how that is put.
func forms() []struct {
	s    string
	want rex.Node
	put  string
} {
	digits, space := span('0', '9'), one("\t\n\r ")
	word := rex.Node{Kind: rex.One, Set: set("_").With('0', '9').With('A', 'Z').With('a', 'z')}
	return []struct {
		s    string
		want rex.Node
		put  string
	}{
		{"", empty, ""}, {"()", empty, ""}, {"(())()", empty, ""}, {"a", a, "a"}, {"((a))", a, "a"}, {"(a)b*", cat(a, repeat(0, -1, b)), "ab*"},
		{"a()b", cat(a, b), "ab"}, {"()a", a, "a"}, {"(ab)c", cat(a, b, c), "abc"}, {"a(bc)", cat(a, b, c), "abc"}, {"(a(b(c)))", cat(a, b, c), "abc"},
		{"a|b", alt(a, b), "a|b"}, {"a|(b|c)", alt(a, b, c), "a|b|c"}, {"(a|b)|c", alt(a, b, c), "a|b|c"}, {"((a|b))", alt(a, b), "a|b"},
		{"|", alt(empty, empty), "|"}, {"a|", alt(a, empty), "a|"}, {"|a", alt(empty, a), "|a"}, {"a||b", alt(a, empty, b), "a||b"}, {"a|()", alt(a, empty), "a|"}, {"(|)a", cat(alt(empty, empty), a), "(|)a"},
		{"(a|b)c", cat(alt(a, b), c), "(a|b)c"}, {"ab|c", alt(cat(a, b), c), "ab|c"}, {"a|(bc)", alt(a, cat(b, c)), "a|bc"},
		{"a*", repeat(0, -1, a), "a*"}, {"a+", repeat(1, -1, a), "a+"}, {"a?", repeat(0, 1, a), "a?"},
		{"a{0}", repeat(0, 0, a), "a{0}"}, {"a{2}", repeat(2, 2, a), "a{2}"}, {"a{2,}", repeat(2, -1, a), "a{2,}"}, {"a{2,3}", repeat(2, 3, a), "a{2,3}"}, {"a{20}", repeat(20, 20, a), "a{20}"},
		{"a{0,}", repeat(0, -1, a), "a*"}, {"a{1,}", repeat(1, -1, a), "a+"}, {"a{0,1}", repeat(0, 1, a), "a?"}, {"a{3,3}", repeat(3, 3, a), "a{3}"}, {"a{1}", repeat(1, 1, a), "a{1}"}, {"a{0,0}", repeat(0, 0, a), "a{0}"}, {"a{20,}", repeat(20, -1, a), "a{20,}"}, {"a{0,20}", repeat(0, 20, a), "a{0,20}"},
		{"(a*)*", repeat(0, -1, repeat(0, -1, a)), "(a*)*"}, {"(ab)*", repeat(0, -1, cat(a, b)), "(ab)*"}, {"(a|b)+", repeat(1, -1, alt(a, b)), "(a|b)+"}, {"()*", repeat(0, -1, empty), "()*"}, {"(()|a)?", repeat(0, 1, alt(empty, a)), "(|a)?"},
		{"^", begin, "^"}, {"$", end, "$"}, {"^a$", cat(begin, a, end), "^a$"}, {"^*", repeat(0, -1, begin), "^*"}, {"$+", repeat(1, -1, end), "$+"}, {"a(^$)b", cat(a, begin, end, b), "a^$b"},
		{".", not("\n"), "."}, {`[^\n]`, not("\n"), "."}, {"[\n]", one("\n"), "\n"}, {`\n`, one("\n"), "\n"}, {`\t`, one("\t"), "\t"}, {"\n", one("\n"), "\n"}, {"\x00", one("\x00"), "\x00"}, {"\xff", one("\xff"), "\xff"},
		{`\d`, digits, "[0-9]"}, {`\w`, word, "[0-9A-Z_a-z]"}, {`\s`, space, "[\t-\n\r ]"},
		{`\\`, one(`\`), `\\`}, {`\-`, one("-"), "-"}, {"-", one("-"), "-"}, {`\.\[\]\(\)\*\+\?\{\}\|\^\$`, cat(one("."), one("["), one("]"), one("("), one(")"), one("*"), one("+"), one("?"), one("{"), one("}"), one("|"), one("^"), one("$")), `\.\[\]\(\)\*\+\?\{\}\|\^\$`},
		{"[a]", a, "a"}, {"[.]", one("."), `\.`}, {"[ab]", span('a', 'b'), "[a-b]"}, {"[ba]", span('a', 'b'), "[a-b]"}, {"[aa]", a, "a"}, {"[a-a]", a, "a"}, {"[a-c]", span('a', 'c'), "[a-c]"}, {"[ace]", one("ace"), "[ace]"}, {"[a-ce]", one("abce"), "[a-ce]"}, {"[q-s]", span('q', 's'), "[q-s]"}, {"[a-cb-d]", span('a', 'd'), "[a-d]"},
		{"[^a]", not("a"), "[\x00-`b-\xff]"}, {"[^ab]", not("ab"), "[\x00-`c-\xff]"}, {"[[]", one("["), `\[`}, {"[[-\\]]", span('[', ']'), `[[-\]]`}, {`[\]\-\^\\]`, one(`]-^\`), `[\-\\-\^]`},
		{`[\d\-x]`, rex.Node{Kind: rex.One, Set: set("-x").With('0', '9')}, `[\-0-9x]`}, {`[^\d]`, not("0123456789"), "[\x00-/:-\xff]"}, {"[\\n-\r]", span('\n', '\r'), "[\n-\r]"}, {`[\--\.]`, one("-."), `[\--.]`}, {"[|()*+?{}$.]", one("|()*+?{}$."), "[$(-+.?{-}]"},
		{"[\x00-\xff]", rex.Node{Kind: rex.One, Set: rex.Set{}.With(0, 255)}, "[\x00-\xff]"}, {"[\x00-\xfe]", rex.Node{Kind: rex.One, Set: rex.Set{}.With(0, 254)}, "[\x00-\xfe]"}, {"[^\x00-\xfe]", one("\xff"), "\xff"},
		{"a,b", cat(a, one(","), b), "a,b"}, {"a1", cat(a, one("1")), "a1"},
	}
}

// TestForms (P4.2, P4.3, P4.5) reads all forms, and puts them.
func TestForms(t *testing.T) {
	for _, f := range forms() {
		n, at, e := rex.Parse(f.s)
		if e != api.OK || at != len(f.s) || !rex.Same(n, f.want) {
			t.Errorf("%q: %+v %d %d", f.s, n, at, e)
			continue
		}
		if put := rex.Put(f.want); put != f.put {
			t.Errorf("%q: put as %q", f.s, put)
		}
		if back, _, e := rex.Parse(f.put); e != api.OK || !rex.Same(back, n) {
			t.Errorf("%q: %q is another one", f.s, f.put)
		}
		if !rex.Right(n) {
			t.Errorf("%q is not right", f.s)
		}
	}
}

// TestFaults (P4.4) has what is no expression, with the place of its fault.
func TestFaults(t *testing.T) {
	for s, want := range map[string]int{
		")": 0, "a)": 1, "(a))": 3, "()b)": 3, "]": 0, "a]": 1, "}": 0, "a}": 1, "a{2}}": 4, "[a]]": 3, "(]": 1,
		"*": 0, "+": 0, "?": 0, "{": 0, "{2}": 0, "(*)": 1, "(+": 1, "a|*": 2, "a|{1}": 2, "a**": 2, "a*?": 2, "a+{2}": 2, "a{2}{3}": 4, "a{2}*": 4, "^**": 2, "|?": 1, "()**": 3,
		"a{": 1, "a{}": 1, "a{,}": 1, "a{,2}": 1, "a{x}": 1, "a{1": 1, "a{1,": 1, "a{1,2": 1, "a{01}": 1, "a{1,02}": 1, "a{-1}": 1, "a{21}": 1, "a{21,}": 1, "a{1,21}": 1, "a{3,2}": 1, "a{1 }": 1, "a{1,2,3}": 1, "a{99999999999999999999}": 1, "ab{0,-1}": 2, "a{2,x}": 1, "a{18446744073709551617}": 1, "a{+1}": 1, "a{1,-": 1, "a{2;": 1,
		`\`: 0, `a\`: 1, `\q`: 0, `ab\x`: 2, `\D`: 0, `\_`: 0, `\,`: 0, `(\`: 1, `\]\/`: 2, `\"`: 0, `\N`: 0, "\\\n": 0, `\0`: 0,
		"[": 0, "[]": 0, "[^]": 0, "[^": 0, "a[": 1, "[a": 0, "[^a": 0, "[a-": 0, "[a-]": 0, "[-a]": 0, "[a-b-c]": 0, "[b-a]": 0, "[a^]": 0, "[^^]": 0, "[^-]": 0, "[]a]": 0, `[\]`: 0, `[\q]`: 0, `ab[\`: 2, `[\d-z]`: 0, `[a-\d]`: 0, `[a-\w]`: 0, `[\s-\s]`: 0, `[\n-\t]`: 0, `[a-\q]`: 0, "[^\x00-\xff]": 0, "[a-c--]": 0, "[a--]": 0, "([)": 1, "[a[b]c]": 6, "[xb-a]": 0, "[b-ax]": 0, `[xa-\d]`: 0, `[a-\dx]`: 0, `[x\d-z]`: 0, `[\d-zx]`: 0, `[x\n-\t]`: 0, `[xa-\q]`: 0, `[x\q]`: 0, "[xa-": 0, "[^xb-a]": 0, `[^\d-z]`: 0, "[a-^]": 0, "[+--]": 0,
		"(": 1, "((": 2, "(a": 2, "((a)": 4, "a(b|": 4, "(|": 2, "(()": 3, "(a(b)c": 6,
		"a)(": 1, `(\q]`: 1, "a]\\": 1, "(a{x)": 2, "(a|]": 3, ")(": 0,
	} {
		n, at, e := rex.Parse(s)
		if e != api.ErrParse || at != want || !rex.Same(n, rex.Node{}) {
			t.Errorf("%q: %+v %d %d, not at %d", s, n, at, e, want)
		}
	}
}

// TestBig (P4.4) has what is too long, or needs too much.
func TestBig(t *testing.T) {
	long := strings.Repeat("a", api.MaxText)
	for i, c := range []struct {
		s  string
		at int
		e  api.Errno
	}{
		{strings.Repeat("a", api.MaxRex), api.MaxRex, api.OK}, {strings.Repeat("a", api.MaxRex+1), api.MaxRex + 1, api.ErrBig},
		{long, api.MaxText, api.ErrBig}, {long + "a", api.MaxText, api.ErrBig}, {long + ")", api.MaxText, api.ErrBig}, {long[1:] + ")", api.MaxText - 1, api.ErrParse},
		{strings.Repeat("()", 128), 256, api.OK}, {strings.Repeat("(", 128) + strings.Repeat(")", 128), 256, api.OK}, {strings.Repeat("(", 256), 256, api.ErrParse},
		{"(a{10}){20}", 11, api.OK}, {"(a{10}){20}b", 12, api.ErrBig}, {"(a{20}){0,10}", 13, api.ErrBig}, {"(a{19}){0,10}", 13, api.OK}, {"(((a{20}){20}){20}){20}", 23, api.ErrBig},
		{"(((((((((a{20}){20}){20}){20}){20}){20}){20}){20}){20}){0}", 58, api.OK}, {strings.Repeat("|", 200), 200, api.OK}, {strings.Repeat("|", 201), 201, api.ErrBig},
		{strings.Repeat("a*", 100), 200, api.OK}, {strings.Repeat("a*", 100) + "^", 201, api.ErrBig}, {"(a{20}){10}*", 11, api.ErrParse},
	} {
		n, at, e := rex.Parse(c.s)
		if at != c.at || e != c.e || e != api.OK && !rex.Same(n, rex.Node{}) {
			t.Errorf("%d: %d %d", i, at, e)
		}
	}
}

// TestSize (P4.3) has the sizes of nodes, right and wrong.
func TestSize(t *testing.T) {
	big := repeat(0, math.MaxInt, a)
	for i, c := range []struct {
		n    rex.Node
		want int
	}{
		{empty, 0}, {a, 1}, {begin, 1}, {end, 1}, {cat(a, b, empty), 2}, {alt(a, b), 3}, {alt(empty, empty, empty), 2}, {cat(), 0}, {alt(), 0}, {alt(a), 1}, {cat(a), 1},
		{repeat(0, -1, a), 2}, {repeat(1, -1, a), 2}, {repeat(3, -1, cat(a, b)), 7}, {repeat(0, -7, a), 2}, {repeat(-5, -1, a), 2}, {repeat(2, -1), 1}, {repeat(0, -1, empty), 1},
		{repeat(0, 1, a), 2}, {repeat(2, 2, a), 2}, {repeat(2, 5, cat(a, b)), 13}, {repeat(0, 0, a), 0}, {repeat(1, 1, a), 1}, {repeat(0, 3), 3}, {repeat(3, 3), 0}, {repeat(2, 5, a, b, c), 8}, {repeat(0, 20, empty), 20},
		{repeat(5, 2, a), 0}, {repeat(3, 2, cat(a, b)), 3}, {big, 1000000}, {repeat(math.MinInt, math.MaxInt, a), 1000000}, {repeat(math.MaxInt, math.MaxInt, a), 1000000}, {repeat(math.MaxInt, -1, a), 1000000}, {repeat(math.MaxInt, -1), 1}, {repeat(math.MinInt, 3, a), 6}, {repeat(math.MaxInt, math.MaxInt), 0},
		{repeat(0, math.MinInt, a), 2}, {cat(big, big), 1000000}, {alt(big, a), 1000000}, {repeat(0, 1000, repeat(0, 1000, repeat(0, 1000, a))), 1000000}, {repeat(1000000, 1000000, a), 1000000}, {repeat(999999, 999999, a), 999999}, {repeat(1000001, 1000002), 0},
		{rex.Node{Kind: 7, Kids: []rex.Node{a}}, 0}, {rex.Node{Kind: -1, Min: 5, Max: 5}, 0}, {rex.Node{Kind: rex.One, Kids: []rex.Node{a, b}}, 1}, {rex.Node{Kind: rex.Empty, Kids: []rex.Node{a}}, 0}, {cat(a, rex.Node{Kind: 99}, b), 2},
	} {
		if got := rex.Size(c.n); got != c.want {
			t.Errorf("%d: %d, not %d", i, got, c.want)
		}
	}
}

// TestRight (P4.3) has nodes that are right, though in no normal form, and wrong ones.
func TestRight(t *testing.T) {
	for i, n := range []rex.Node{
		empty, a, begin, end, cat(a, b), cat(empty, empty), cat(a, cat(b, c)), alt(a, alt(b, empty)), repeat(0, -1, empty), repeat(20, 20, a), repeat(20, -1, a), repeat(0, 0, a), repeat(0, 20, a), not(""),
	} {
		if !rex.Right(n) {
			t.Error("right", i)
		}
	}
	for i, n := range []rex.Node{
		{Kind: 7}, {Kind: -1}, {Kind: rex.One}, {Kind: rex.Empty, Set: set("a")}, {Kind: rex.Begin, Set: set("a")}, {Kind: rex.End, Set: set("\xff")}, {Kind: rex.Cat, Set: set("a"), Kids: []rex.Node{a, b}}, {Kind: rex.Alt, Set: set("a"), Kids: []rex.Node{a, b}}, {Kind: rex.Repeat, Set: set("a"), Kids: []rex.Node{a}},
		{Kind: rex.Empty, Kids: []rex.Node{a}}, {Kind: rex.One, Set: set("a"), Kids: []rex.Node{a}}, {Kind: rex.Begin, Kids: []rex.Node{a}}, {Kind: rex.End, Kids: []rex.Node{a}}, cat(), cat(a), alt(), alt(a), repeat(0, 1), repeat(0, 1, a, b),
		{Min: 1}, {Max: 1}, {Max: -1}, {Kind: rex.One, Set: set("a"), Min: 1}, {Kind: rex.Begin, Max: 1}, {Kind: rex.Cat, Max: -1, Kids: []rex.Node{a, b}}, {Kind: rex.Alt, Min: 1, Kids: []rex.Node{a, b}},
		repeat(-1, 1, a), repeat(21, 21, a), repeat(21, -1, a), repeat(0, 21, a), repeat(0, -2, a), repeat(2, 1, a), repeat(-1, -1, a), repeat(math.MinInt, math.MaxInt, a),
		cat(a, rex.Node{Kind: rex.One}), alt(rex.Node{Kind: 7}, a), repeat(0, 1, cat(a)), cat(a, repeat(0, 1, alt(b, repeat(0, 21, c)))),
	} {
		if rex.Right(n) {
			t.Error("wrong", i)
		}
	}
}

// TestAny (P1) puts, and weighs, nodes that are nothing at all.
func TestAny(t *testing.T) {
	for _, n := range []rex.Node{{Kind: 7}, {Kind: rex.One}, {Kind: rex.Repeat, Min: -5, Max: -9}, cat(), alt(), cat(a), {Kind: rex.Empty, Kids: []rex.Node{a}}, repeat(math.MinInt, math.MaxInt, repeat(1, 1)), cat(rex.Node{Kind: math.MinInt}, alt())} {
		rex.Put(n)
		rex.Size(n)
		if rex.Right(n) || !rex.Same(n, n) {
			t.Errorf("%+v", n)
		}
	}
}

// TestDeep (P1) has nodes that stand as deep in one another as they may.
func TestDeep(t *testing.T) {
	n := a
	for range 99999 {
		n = repeat(1, 1, n)
	}
	if !rex.Right(n) || rex.Size(n) != 1 || !rex.Same(n, n) {
		t.Error("deep")
	}
	if put := rex.Put(n); len(put) != 1+3*99999+2*99998 {
		t.Error(len(put))
	}
}

// normal tells whether n is in normal form.
func normal(n rex.Node) bool {
	for _, kid := range n.Kids {
		if !normal(kid) || n.Kind == rex.Cat && (kid.Kind == rex.Empty || kid.Kind == rex.Cat) || n.Kind == rex.Alt && kid.Kind == rex.Alt {
			return false
		}
	}
	return true
}

// TestThereAndBack (P4.6) has many texts: what is read is right, and in normal form, and is read again as it is put.
func TestThereAndBack(t *testing.T) {
	rnd := rand.New(rand.NewSource(4))
	parts := []string{"a", "b", "(", ")", "|", "*", "+", "?", "{2}", "{0,3}", "{1,}", "^", "$", ".", "[a-c]", "[^b]", `\d`, `\.`, "()", "-", "\n", "\xff", "[\\]-_]", "{", "]"}
	read := 0
	for range 60000 {
		s := ""
		for range rnd.Intn(9) {
			s += parts[rnd.Intn(len(parts))]
		}
		n, at, e := rex.Parse(s)
		if e != api.OK {
			if at < 0 || at > len(s) || !rex.Same(n, rex.Node{}) {
				t.Fatalf("%q: %d %d", s, at, e)
			}
			continue
		}
		read++
		put := rex.Put(n)
		back, size, e := rex.Parse(put)
		if !rex.Right(n) || !normal(n) || e != api.OK || size != len(put) || !rex.Same(back, n) || rex.Put(back) != put {
			t.Fatalf("%q: %q", s, put)
		}
	}
	if read < 5000 {
		t.Errorf("only %d were read", read)
	}
}

// TestUntouched (P3) has no node written into, nor what stands behind it.
func TestUntouched(t *testing.T) {
	kids := []rex.Node{a, cat(b, c), begin, end}
	n := cat(kids[:2]...)
	rex.Put(n)
	rex.Size(n)
	rex.Right(n)
	rex.Same(n, n)
	if !rex.Same(cat(kids...), cat(a, cat(b, c), begin, end)) {
		t.Error("written into")
	}
}
