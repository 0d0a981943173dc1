package ast_test

import (
	"math"
	"strings"
	"testing"

	"archivist/api"
	"archivist/ast"
)

var (
	long    = strings.Repeat("v", api.MaxText)
	large   = "(a{20}){20}"
	textOps = []string{"=", "!=", "=~", "!~"}
	lineOps = []string{"|=", "!=", "|~", "!~"}
	numOps  = []string{"==", "!=", ">", ">=", "<", "<="}
	allOps  = []string{"", "=", "!=", "=~", "!~", "|=", "|~", "==", ">", ">=", "<", "<=", "|", "~", "= ", "{"}
)

func among(s string, l []string) bool {
	for _, one := range l {
		if one == s {
			return true
		}
	}
	return false
}

func TestKinds(t *testing.T) {
	if ast.Line != 1 || ast.Logfmt != 2 || ast.Label != 3 || ast.Compare != 4 || ast.Number != 0 || ast.Duration != 1 || ast.Bytes != 2 {
		t.Error("turned")
	}
}

// TestLiteral (P8.1) has numbers of all units, and of none.
func TestLiteral(t *testing.T) {
	for i, c := range []struct {
		num  int64
		unit int
		want string
		ok   bool
	}{
		{0, ast.Number, "0", true}, {-5, ast.Number, "-5", true}, {math.MinInt64, ast.Number, "-9223372036854775808", true},
		{0, ast.Duration, "0s", true}, {5400000000000, ast.Duration, "1h30m", true}, {-1, ast.Duration, "", false},
		{0, ast.Bytes, "0B", true}, {1024, ast.Bytes, "1KB", true}, {-1024, ast.Bytes, "", false},
		{1, 3, "", false}, {1, -1, "", false}, {0, math.MaxInt, "", false},
	} {
		if got, ok := ast.Literal(c.num, c.unit); got != c.want || ok != c.ok {
			t.Errorf("%d: %q %t", i, got, ok)
		}
	}
}

// TestRightMatcher (P8.1, P8.2) has matchers right, and wrong by one thing.
func TestRightMatcher(t *testing.T) {
	for _, op := range allOps {
		if got := ast.RightMatcher(ast.Matcher{"a", op, "b"}); got != among(op, textOps) {
			t.Errorf("%q: %t", op, got)
		}
	}
	for i, m := range []ast.Matcher{{"a", "=", ""}, {"logfmt", "=", "x"}, {"a", "!=", long}, {"a", "=", "("}, {"a", "!=", large}, {"a", "=~", ""}, {"a", "!~", "x|y"}, {strings.Repeat("n", 32), "=", "\xff"}} {
		if !ast.RightMatcher(m) {
			t.Error("right", i)
		}
	}
	for i, m := range []ast.Matcher{{}, {"", "=", "x"}, {"1", "=", "x"}, {strings.Repeat("n", 33), "=", "x"}, {"a", "=", long + "v"}, {"a", "!=", long + "v"}, {"a", "=~", "("}, {"a", "!~", "*"}, {"a", "=~", large}, {"a", "!~", large}, {"a", "=~", long + "v"}, {"a", "=~", long}} {
		if ast.RightMatcher(m) {
			t.Error("wrong", i)
		}
	}
}

// TestRightStage (P8.1, P8.2) has stages right, and wrong by one thing.
func TestRightStage(t *testing.T) {
	for _, op := range allOps {
		if got := ast.RightStage(ast.Stage{Kind: ast.Line, Op: op, Value: "b"}); got != among(op, lineOps) {
			t.Errorf("line %q: %t", op, got)
		}
		if got := ast.RightStage(ast.Stage{Kind: ast.Label, Name: "a", Op: op, Value: "b"}); got != among(op, textOps) {
			t.Errorf("label %q: %t", op, got)
		}
		if got := ast.RightStage(ast.Stage{Kind: ast.Compare, Name: "a", Op: op}); got != among(op, numOps) {
			t.Errorf("compare %q: %t", op, got)
		}
	}
	for i, s := range []ast.Stage{
		{Kind: ast.Line, Op: "|=", Value: long}, {Kind: ast.Line, Op: "!="}, {Kind: ast.Line, Op: "|=", Value: "("}, {Kind: ast.Line, Op: "|~", Value: "x$"}, {Kind: ast.Line, Op: "!~"},
		{Kind: ast.Logfmt}, {Kind: ast.Label, Name: "Logfmt", Op: "=", Value: ")"}, {Kind: ast.Label, Name: "a", Op: "=~", Value: "x"}, {Kind: ast.Label, Name: "a", Op: "!=", Value: long},
		{Kind: ast.Compare, Name: "a", Op: ">", Num: -1}, {Kind: ast.Compare, Name: "a", Op: "<", Num: 1, Unit: ast.Duration}, {Kind: ast.Compare, Name: "a", Op: "==", Num: math.MaxInt64, Unit: ast.Bytes},
	} {
		if !ast.RightStage(s) {
			t.Error("right", i)
		}
	}
	for i, s := range []ast.Stage{
		{}, {Kind: 5}, {Kind: -1, Op: "|=", Value: "x"}, {Kind: 5, Name: "a", Op: "=", Value: "x"},
		{Kind: ast.Line, Op: "|=", Value: long + "v"}, {Kind: ast.Line, Op: "!=", Value: long + "v"}, {Kind: ast.Line, Op: "|~", Value: "("}, {Kind: ast.Line, Op: "!~", Value: "["}, {Kind: ast.Line, Op: "|~", Value: large}, {Kind: ast.Line, Op: "!~", Value: large},
		{Kind: ast.Line, Op: "|=", Name: "a"}, {Kind: ast.Line, Op: "|=", Num: 1}, {Kind: ast.Line, Op: "|=", Unit: 1},
		{Kind: ast.Logfmt, Name: "a"}, {Kind: ast.Logfmt, Op: "="}, {Kind: ast.Logfmt, Value: "x"}, {Kind: ast.Logfmt, Num: -1}, {Kind: ast.Logfmt, Unit: 2},
		{Kind: ast.Label, Name: "logfmt", Op: "=", Value: "x"}, {Kind: ast.Label, Op: "=", Value: "x"}, {Kind: ast.Label, Name: "1", Op: "="}, {Kind: ast.Label, Name: "a", Op: "=~", Value: "("}, {Kind: ast.Label, Name: "a", Op: "=", Value: long + "v"}, {Kind: ast.Label, Name: "a", Op: "=", Num: 1}, {Kind: ast.Label, Name: "a", Op: "=", Unit: 1}, {Kind: ast.Label, Name: "a", Op: "!~", Value: large},
		{Kind: ast.Compare, Name: "logfmt", Op: "==", Num: 1}, {Kind: ast.Compare, Op: "==", Num: 1}, {Kind: ast.Compare, Name: "a-b", Op: "=="}, {Kind: ast.Compare, Name: "a", Op: "==", Value: "1"}, {Kind: ast.Compare, Name: "a", Op: "==", Unit: 3}, {Kind: ast.Compare, Name: "a", Op: "==", Unit: -1}, {Kind: ast.Compare, Name: "a", Op: "==", Num: -1, Unit: ast.Duration}, {Kind: ast.Compare, Name: "a", Op: "==", Num: -1, Unit: ast.Bytes},
	} {
		if ast.RightStage(s) {
			t.Error("wrong", i)
		}
	}
}

func query(matchers, stages int) ast.Query {
	var q ast.Query
	for range matchers {
		q.Matchers = append(q.Matchers, ast.Matcher{"a", "=", "b"})
	}
	for range stages {
		q.Stages = append(q.Stages, ast.Stage{Kind: ast.Logfmt})
	}
	return q
}

// TestRight (P8.2) has as many as may be, and more.
func TestRight(t *testing.T) {
	for _, c := range []struct {
		matchers, stages int
		want             bool
	}{{0, 0, false}, {0, 1, false}, {1, 0, true}, {8, 16, true}, {9, 0, false}, {1, 17, false}} {
		if got := ast.Right(query(c.matchers, c.stages)); got != c.want {
			t.Error(c, got)
		}
	}
	q := query(8, 16)
	q.Matchers[7].Op = "|="
	if ast.Right(q) {
		t.Error("a matcher")
	}
	q = query(8, 16)
	q.Stages[15].Kind = ast.Line
	if ast.Right(q) {
		t.Error("a stage")
	}
}

// TestPut (P8.3) has each kind, right or not.
func TestPut(t *testing.T) {
	if got := ast.PutMatcher(ast.Matcher{"a", "!~", "x\"\n"}); got != `a!~"x\"\n"` {
		t.Error(got)
	}
	for i, c := range []struct {
		s    ast.Stage
		want string
	}{
		{ast.Stage{}, ""}, {ast.Stage{Kind: 9, Name: "a", Op: "=", Value: "x"}, ""}, {ast.Stage{Kind: ast.Line, Op: "|~", Value: `a\`}, `|~ "a\\"`}, {ast.Stage{Kind: ast.Line, Op: "!=", Value: ""}, `!= ""`}, {ast.Stage{Kind: ast.Logfmt}, "| logfmt"}, {ast.Stage{Kind: ast.Label, Name: "a", Op: "!=", Value: "x"}, `| a!="x"`},
		{ast.Stage{Kind: ast.Compare, Name: "a", Op: ">=", Num: -7}, "| a >= -7"}, {ast.Stage{Kind: ast.Compare, Name: "a", Op: "!=", Num: 90000000000, Unit: ast.Duration}, "| a != 1m30s"}, {ast.Stage{Kind: ast.Compare, Name: "a", Op: "<", Num: 2048, Unit: ast.Bytes}, "| a < 2KB"}, {ast.Stage{Kind: ast.Compare, Name: "a", Op: "<", Num: -1, Unit: ast.Bytes}, "| a < "},
	} {
		if got := ast.PutStage(c.s); got != c.want {
			t.Errorf("%d: %q", i, got)
		}
	}
	q := ast.Query{Matchers: []ast.Matcher{{"a", "=", "b"}, {"c", "=~", "d+"}}, Stages: []ast.Stage{{Kind: ast.Line, Op: "|=", Value: "x"}, {Kind: ast.Logfmt}, {Kind: ast.Compare, Name: "n", Op: ">", Num: 5}}}
	if got := ast.Put(q); got != `{a="b",c=~"d+"} |= "x" | logfmt | n > 5` {
		t.Error(got)
	}
	if got := ast.Put(ast.Query{}); got != "{}" {
		t.Error(got)
	}
	if got := ast.Put(query(1, 0)); got != `{a="b"}` {
		t.Error(got)
	}
}

// TestSame (P8.3) turns each thing that a query has.
func TestSame(t *testing.T) {
	base := func() ast.Query {
		return ast.Query{Matchers: []ast.Matcher{{"a", "=", "b"}, {"c", "=", "d"}}, Stages: []ast.Stage{{Kind: ast.Logfmt}, {Kind: ast.Compare, Name: "n", Op: ">", Num: 5}}}
	}
	if !ast.Same(base(), base()) || !ast.Same(ast.Query{}, ast.Query{Matchers: []ast.Matcher{}, Stages: []ast.Stage{}}) {
		t.Error("the same")
	}
	for i, turn := range []func(q *ast.Query){
		func(q *ast.Query) { q.Matchers[0].Name = "b" }, func(q *ast.Query) { q.Matchers[1].Op = "!=" }, func(q *ast.Query) { q.Matchers[1].Value = "" }, func(q *ast.Query) { q.Matchers = q.Matchers[:1] }, func(q *ast.Query) { q.Matchers[0], q.Matchers[1] = q.Matchers[1], q.Matchers[0] },
		func(q *ast.Query) { q.Stages[0].Kind = 1 }, func(q *ast.Query) { q.Stages[1].Name = "" }, func(q *ast.Query) { q.Stages[1].Op = "" }, func(q *ast.Query) { q.Stages[1].Value = "x" }, func(q *ast.Query) { q.Stages[1].Num = 6 }, func(q *ast.Query) { q.Stages[1].Unit = 1 }, func(q *ast.Query) { q.Stages = q.Stages[:1] },
	} {
		q := base()
		turn(&q)
		if ast.Same(q, base()) || ast.Same(base(), q) {
			t.Error(i)
		}
	}
}

// TestToldAlike (P8.4) holds right queries against one another: they are told alike just if they are the same.
func TestToldAlike(t *testing.T) {
	stages := []ast.Stage{{Kind: ast.Logfmt}}
	for _, value := range []string{"", "a", "0", `"`, `a"`, "0s"} {
		for i := range 4 {
			stages = append(stages, ast.Stage{Kind: ast.Line, Op: lineOps[i], Value: value}, ast.Stage{Kind: ast.Label, Name: "a", Op: textOps[i], Value: value}, ast.Stage{Kind: ast.Label, Name: "aa", Op: textOps[i], Value: value})
		}
	}
	for _, n := range []int64{0, 1, 1000, 1024, 60000000000} {
		for unit := range 3 {
			for _, op := range numOps {
				stages = append(stages, ast.Stage{Kind: ast.Compare, Name: "a", Op: op, Num: n, Unit: unit})
			}
		}
	}
	told := map[string]int{}
	for i, s := range stages {
		q := query(1, 0)
		q.Stages = []ast.Stage{s}
		if !ast.Right(q) {
			t.Errorf("%+v is not right", s)
		}
		if other, ok := told[ast.Put(q)]; ok {
			t.Errorf("%+v and %+v are both %s", s, stages[other], ast.Put(q))
		}
		told[ast.Put(q)] = i
	}
}
