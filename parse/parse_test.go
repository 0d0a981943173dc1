package parse_test

import (
	"math"
	"math/rand"
	"strings"
	"testing"

	"archivist/api"
	"archivist/ast"
	"archivist/parse"
	"archivist/quote"
)

// TestValue (P9.1) has numbers of all units, and what is none.
func TestValue(t *testing.T) {
	for s, want := range map[string]struct {
		n    int64
		unit int
	}{
		"0": {0, ast.Number}, "-5": {-5, ast.Number}, "9223372036854775807": {math.MaxInt64, ast.Number}, "-9223372036854775808": {math.MinInt64, ast.Number},
		"5s": {5000000000, ast.Duration}, "1h30m": {5400000000000, ast.Duration}, "90m": {5400000000000, ast.Duration}, "5m": {300000000000, ast.Duration}, "0ns": {0, ast.Duration},
		"0B": {0, ast.Bytes}, "3KB": {3072, ast.Bytes}, "5MB": {5 << 20, ast.Bytes}, "1GB": {1 << 30, ast.Bytes},
	} {
		if n, unit, ok := parse.Value(s); n != want.n || unit != want.unit || !ok {
			t.Errorf("%s: %d %d %t", s, n, unit, ok)
		}
	}
	for _, s := range []string{"", "-", "05", "+5", "5x", "-5s", "-1B", "9223372036854775808", "1.5s", "5 s", "s", "1KB1B", "2562048h", "8589934592GB", "1s1h"} {
		if n, unit, ok := parse.Value(s); n != 0 || unit != 0 || ok {
			t.Errorf("%q: %d %d %t", s, n, unit, ok)
		}
	}
}

func matcher(name, op, value string) ast.Matcher {
	return ast.Matcher{Name: name, Op: op, Value: value}
}

// TestParse (P9.2, P9.3) has queries of all forms.
func TestParse(t *testing.T) {
	a := []ast.Matcher{matcher("a", "=", "b")}
	for s, want := range map[string]ast.Query{
		`{a="b"}`:                                    {Matchers: a},
		" {\ta = \"b\"\n} ":                          {Matchers: a},
		`{a="b",c!="",d=~"x+",logfmt!~"y"}`:          {Matchers: []ast.Matcher{a[0], matcher("c", "!=", ""), matcher("d", "=~", "x+"), matcher("logfmt", "!~", "y")}},
		`{a="b",a="b"}`:                              {Matchers: []ast.Matcher{a[0], a[0]}},
		`{a="b"}|="("`:                               {Matchers: a, Stages: []ast.Stage{{Kind: ast.Line, Op: "|=", Value: "("}}},
		`{a="b"} != "x" |~ "y$" !~ ""`:               {Matchers: a, Stages: []ast.Stage{{Kind: ast.Line, Op: "!=", Value: "x"}, {Kind: ast.Line, Op: "|~", Value: "y$"}, {Kind: ast.Line, Op: "!~"}}},
		`{a="b"} | logfmt|logfmt != "x"`:             {Matchers: a, Stages: []ast.Stage{{Kind: ast.Logfmt}, {Kind: ast.Logfmt}, {Kind: ast.Line, Op: "!=", Value: "x"}}},
		`{a="b"} | l = "x" | l!="y" | l=~"z" |l!~""`: {Matchers: a, Stages: []ast.Stage{{Kind: ast.Label, Name: "l", Op: "=", Value: "x"}, {Kind: ast.Label, Name: "l", Op: "!=", Value: "y"}, {Kind: ast.Label, Name: "l", Op: "=~", Value: "z"}, {Kind: ast.Label, Name: "l", Op: "!~"}}},
		`{a="b"} | n == 5 | n != -5 | n > 90m | n>=1h|n<1KB | n <= 0s`: {Matchers: a, Stages: []ast.Stage{{Kind: ast.Compare, Name: "n", Op: "==", Num: 5}, {Kind: ast.Compare, Name: "n", Op: "!=", Num: -5}, {Kind: ast.Compare, Name: "n", Op: ">", Num: 5400000000000, Unit: ast.Duration}, {Kind: ast.Compare, Name: "n", Op: ">=", Num: 3600000000000, Unit: ast.Duration}, {Kind: ast.Compare, Name: "n", Op: "<", Num: 1024, Unit: ast.Bytes}, {Kind: ast.Compare, Name: "n", Op: "<=", Unit: ast.Duration}}},
	} {
		q, at, e := parse.Parse(s)
		if !ast.Same(q, want) || at != len(s) || e != api.OK || !ast.Right(q) {
			t.Errorf("%q: %+v %d %d", s, q, at, e)
		}
	}
}

// faulty is a query in which ^ stands ahead of the word that may not.
func faulty(t *testing.T, marked string, want api.Errno) {
	t.Helper()
	at := strings.Index(marked, "^")
	s := marked[:at] + marked[at+1:]
	q, got, e := parse.Parse(s)
	if got != at || e != want || len(q.Matchers)+len(q.Stages) != 0 {
		t.Errorf("%q: %d %d, not at %d", s, got, e, at)
	}
}

// TestFaults (P9.3) has at each place of a query words that may not stand there.
func TestFaults(t *testing.T) {
	for _, marked := range []string{
		"^", "  ^", "^a", "^}", `^"a"`, "^5", "^| logfmt",
		"{^", "{^}", "{^,", `{^"a"`, "{^5", "{ ^{", "{^=",
		"{a^", "{a^}", "{a ^", "{a ^b", "{a ^|=", `{a^=="b"}`, `{a^>"b"}`, `{a^|~"b"}`, `{a ^"b"}`, "{a5^", "{a ^5", "{a^,",
		"{a=^", "{a=^b}", "{a=^5}", "{a=^}", "{a=^,}", "{a^==}", "{a!=^5}", "{a=~^{",
		`{a="b"^`, `{a="b"^{`, `{a="b" ^c="d"}`, `{a="b"^|="x"}`, `{a="b"^"c"}`, `{a="b"^=`, `{a="b" ^5`,
		`{a="b",^`, `{a="b",^}`, `{a="b",^,`, `{a="b",c^}`, `{a="b",c=^}`, `{a="b",c="d"^`,
		`{a="b"}^a`, `{a="b"} ^{`, `{a="b"}^}`, `{a="b"}^,`, `{a="b"}^"x"`, `{a="b"} ^=`, `{a="b"}^=~"x"`, `{a="b"}^=="x"`, `{a="b"}^>"x"`, `{a="b"} ^5`,
		`{a="b"}|=^`, `{a="b"}|=^x`, `{a="b"}|~^5`, `{a="b"}!=^|`, `{a="b"}!~^`, `{a="b"}|=^|="x"`,
		`{a="b"}|^`, `{a="b"}|^"x"`, `{a="b"}|^|logfmt`, `{a="b"}|^5`, `{a="b"}| ^= "x"`, `{a="b"} | ^`,
		`{a="b"}|logfmt^="x"`, `{a="b"}|logfmt^==5`, `{a="b"}|logfmt ^a`, `{a="b"}|logfmt ^"x"`, `{a="b"}|logfmt ^> 5`,
		`{a="b"}|l^`, `{a="b"}|l ^m`, `{a="b"}|l^|="x"`, `{a="b"}|l^|logfmt`, `{a="b"}|l ^"x"`, `{a="b"}|l ^5`, `{a="b"}|l^{`,
		`{a="b"}|l=^`, `{a="b"}|l=^5`, `{a="b"}|l=^x`, `{a="b"}|l=~^5`, `{a="b"}|l!~^5s`, `{a="b"}|l=^|logfmt`,
		`{a="b"}|l==^"x"`, `{a="b"}|l>^"5"`, `{a="b"}|l>=^x`, `{a="b"}|l<^`, `{a="b"}|l<=^|`, `{a="b"}|l==^=5`,
		`{a="b"}|l!=^`, `{a="b"}|l!=^x`, `{a="b"}|l!=^|logfmt`,
		`{a="b"}|l>^05`, `{a="b"}|l>^5x`, `{a="b"}|l>^-5s`, `{a="b"}|l!=^5x`, `{a="b"}|l==^9223372036854775808`, `{a="b"}|l==^1KB1B`, `{a="b"}|l==^2562048h`,
		`{a=~^"("}`, `{a!~^"["}`, `{a="b",c=~^"*"} `, `{a="b"}|~^"a)"`, `{a="b"}!~^"\\q"`, `{a="b"}|l=~^"+"`, `{a="b"}|l!~^"{"`,
	} {
		faulty(t, marked, api.ErrParse)
	}
	// A fault of the words is told ahead of any other.
	faulty(t, `} } ^! {`, api.ErrParse)
	faulty(t, `{a=~"("} ^;`, api.ErrParse)
	faulty(t, `{a=^"`, api.ErrParse)
}

// TestTexts (P9.3) has texts that are too long, and expressions that need too much.
func TestTexts(t *testing.T) {
	long, large := strings.Repeat("v", api.MaxText), quote.Put(strings.Repeat("a", 201))
	for _, around := range [][2]string{{`{a=`, "}"}, {`{a!=`, "}"}, {`{a="b"}|=`, ""}, {`{a="b"}!=`, ""}, {`{a="b"}|l=`, ""}, {`{a="b"}|l!=`, ""}} {
		head, tail := around[0], around[1]
		if _, _, e := parse.Parse(head + quote.Put(long) + tail); e != api.OK {
			t.Errorf("%s: %d", head, e)
		}
		if _, _, e := parse.Parse(head + large + tail); e != api.OK {
			t.Errorf("%s: %d", head, e)
		}
		faulty(t, head+"^"+quote.Put(long+"v")+tail, api.ErrParse)
	}
	for _, head := range []string{`{a=~`, `{a!~`, `{a="b"}|~`, `{a="b"}!~`, `{a="b"}|l=~`, `{a="b"}|l!~`} {
		faulty(t, head+"^"+quote.Put(long+"v"), api.ErrParse)
		faulty(t, head+"^"+quote.Put(strings.Repeat("(", 257)), api.ErrParse)
		faulty(t, head+"^"+quote.Put(long), api.ErrBig)
		faulty(t, head+"^"+large, api.ErrBig)
		faulty(t, head+`^"(a{20}){20}"`, api.ErrBig)
		faulty(t, head+`^"(a{20}){20})"`, api.ErrParse)
	}
}

// TestMany (P9.3) has as many matchers, and stages, as may be, and more.
func TestMany(t *testing.T) {
	eight := `{a="b"` + strings.Repeat(`,a="b"`, 7)
	if q, _, e := parse.Parse(eight + "}"); len(q.Matchers) != 8 || e != api.OK {
		t.Error(e)
	}
	faulty(t, eight+`^,a="b"}`, api.ErrParse)
	faulty(t, eight+`^,`, api.ErrParse)
	faulty(t, eight+`^`, api.ErrParse)
	for _, stage := range []string{"|logfmt ", `|="x"`, `|l="x"`, "|n>5 "} {
		sixteen := `{a="b"}` + strings.Repeat(stage, 16)
		if q, _, e := parse.Parse(sixteen); len(q.Stages) != 16 || e != api.OK {
			t.Error(stage, e)
		}
		faulty(t, sixteen+"^"+stage, api.ErrParse)
		faulty(t, sixteen+"^|", api.ErrParse)
		faulty(t, sixteen+"^=", api.ErrParse)
		faulty(t, sixteen+`^!~"("`, api.ErrParse)
	}
}

// TestBig (P9.3) has queries of as many bytes as may be, and of more.
func TestBig(t *testing.T) {
	q := `{a="b"}` + strings.Repeat(" ", 1024)
	if got, at, e := parse.Parse(q[:1024]); len(got.Matchers) != 1 || at != 1024 || e != api.OK {
		t.Error(at, e)
	}
	if got, at, e := parse.Parse(q[:1025]); len(got.Matchers) != 0 || at != 1024 || e != api.ErrBig {
		t.Error(at, e)
	}
}

func some(rnd *rand.Rand) ast.Query {
	names := []string{"a", "app", "_", "x9"}
	values := []string{"", "x", `"`, "\n\xff", "a|b", "[a-c]+", "}"}
	expressions := []string{"", "x", `"`, "\n\xff", "a|b", "[a-c]+", `\}`, "(a*)*$"}
	name := func() string { return names[rnd.Intn(len(names))] }
	pick := func(ops ...string) (string, string) {
		op := ops[rnd.Intn(len(ops))]
		if strings.HasSuffix(op, "~") {
			return op, expressions[rnd.Intn(len(expressions))]
		}
		return op, values[rnd.Intn(len(values))]
	}
	var q ast.Query
	for range 1 + rnd.Intn(8) {
		op, value := pick("=", "!=", "=~", "!~")
		q.Matchers = append(q.Matchers, matcher(name(), op, value))
	}
	for range rnd.Intn(17) {
		var s ast.Stage
		switch s.Kind = 1 + rnd.Intn(4); s.Kind {
		case ast.Line:
			s.Op, s.Value = pick("|=", "!=", "|~", "!~")
		case ast.Label:
			s.Name = name()
			s.Op, s.Value = pick("=", "!=", "=~", "!~")
		case ast.Compare:
			s.Name, s.Unit = name(), rnd.Intn(3)
			s.Op, _ = pick("==", "!=", ">", ">=", "<", "<=")
			s.Num = int64(rnd.Uint64()>>1) >> rnd.Intn(63)
			if s.Unit == ast.Number && rnd.Intn(2) == 0 {
				s.Num = -s.Num
			}
		}
		q.Stages = append(q.Stages, s)
	}
	return q
}

// TestThereAndBack (P9.4) puts right queries, and parses them as the same.
func TestThereAndBack(t *testing.T) {
	rnd := rand.New(rand.NewSource(9))
	for range 3000 {
		q := some(rnd)
		s := ast.Put(q)
		if !ast.Right(q) {
			t.Fatalf("%s is not right", s)
		}
		got, at, e := parse.Parse(s)
		if len(s) > 1024 {
			if e != api.ErrBig {
				t.Fatal(e)
			}
			continue
		}
		if !ast.Same(got, q) || at != len(s) || e != api.OK {
			t.Fatalf("%s: %+v %d %d", s, got, at, e)
		}
	}
}

// TestParsedIsRight (P9.4) has texts of words in any order: what is parsed of them is right, and parsed again as the same.
func TestParsedIsRight(t *testing.T) {
	rnd := rand.New(rand.NewSource(10))
	parts := []string{"|", "|=", "!=", "=", "=~", "!~", "|~", "==", ">", "a", "logfmt", `"x"`, `"("`, "5", "5s", "5x", "-5s"}
	for range 60000 {
		s := `{a="b"}`
		for range rnd.Intn(7) {
			s += " " + parts[rnd.Intn(len(parts))]
		}
		q, at, e := parse.Parse(s)
		if e != api.OK {
			if at < 0 || at > len(s) || len(q.Matchers) != 0 {
				t.Fatalf("%s: %d", s, at)
			}
			continue
		}
		back, _, e := parse.Parse(ast.Put(q))
		if !ast.Right(q) || e != api.OK || !ast.Same(q, back) {
			t.Fatalf("%s: %s", s, ast.Put(q))
		}
	}
}
