package tenant_test

import (
	"math"
	"slices"
	"strings"
	"testing"

	"archivist/api"
	"archivist/ast"
	"archivist/entry"
	"archivist/label"
	"archivist/match"
	"archivist/tenant"
)

func matcher(name, op, value string) ast.Matcher {
	return ast.Matcher{Name: name, Op: op, Value: value}
}

func many(n int) []ast.Matcher {
	var l []ast.Matcher
	for i := range n {
		l = append(l, matcher("n"+string(rune('a'+i)), "=", "v"))
	}
	return l
}

// TestRight (P18.1) has policies right, and wrong by one thing.
func TestRight(t *testing.T) {
	for i, p := range []tenant.Policy{{Name: "a"}, {Name: strings.Repeat("n", 32), Must: many(8), MaxLines: math.MaxInt, MaxBytes: math.MaxInt64}, {Name: "a", Must: []ast.Matcher{matcher("a", "=~", "x"), matcher("a", "=~", "x")}}} {
		if !tenant.Right(p) {
			t.Error("right", i)
		}
	}
	for i, p := range []tenant.Policy{{}, {Name: "1"}, {Name: "a b"}, {Name: strings.Repeat("n", 33)}, {Name: "a", Must: many(9)}, {Name: "a", Must: []ast.Matcher{matcher("a", "=", "x"), matcher("", "=", "x")}}, {Name: "a", Must: []ast.Matcher{matcher("a", "=~", "(")}}, {Name: "a", MaxLines: -1}, {Name: "a", MaxBytes: -1}, {Name: "a", MaxLines: math.MinInt}} {
		if tenant.Right(p) {
			t.Error("wrong", i)
		}
		for _, l := range [][]tenant.Policy{{p}, {{Name: "z"}, p}, {p, {Name: "z"}}} {
			if table, e := tenant.New(l...); table != nil || e != api.ErrArg {
				t.Error("new", i, e)
			}
		}
	}
}

func same(a, b tenant.Policy) bool {
	return a.Name == b.Name && slices.Equal(a.Must, b.Must) && a.MaxLines == b.MaxLines && a.MaxBytes == b.MaxBytes
}

// TestTable (P18.1) has names that are there, and not.
func TestTable(t *testing.T) {
	b := tenant.Policy{Name: "b", Must: many(2), MaxLines: 5, MaxBytes: 7}
	table, e := tenant.New(b, tenant.Policy{Name: "_"}, tenant.Policy{Name: "a"}, tenant.Policy{Name: "B"}, tenant.Policy{Name: "a1"})
	if e != api.OK {
		t.Fatal(e)
	}
	if l := table.Names(); !slices.Equal(l, []string{"B", "_", "a", "a1", "b"}) {
		t.Error(l)
	}
	if p, e := table.Of("b"); !same(p, b) || e != api.OK {
		t.Error(p, e)
	}
	if p, e := table.Of("a"); !same(p, tenant.Policy{Name: "a"}) || e != api.OK {
		t.Error(p, e)
	}
	for _, name := range []string{"", "c", "A", "bb", "b "} {
		if p, e := table.Of(name); !same(p, tenant.Policy{}) || e != api.ErrTenant {
			t.Errorf("%q: %v %d", name, p, e)
		}
	}
	if table, e := tenant.New(b, tenant.Policy{Name: "a"}, tenant.Policy{Name: "b"}); table != nil || e != api.ErrArg {
		t.Error(e)
	}
	none, e := tenant.New()
	if p, e2 := none.Of("a"); e != api.OK || !same(p, tenant.Policy{}) || e2 != api.ErrTenant || len(none.Names()) != 0 {
		t.Error(e, e2)
	}
}

// TestNotShared (P3) writes into what was handed in, and into what was told.
func TestNotShared(t *testing.T) {
	must := many(2)
	table, _ := tenant.New(tenant.Policy{Name: "b", Must: must})
	must[0].Value = "x"
	p, _ := table.Of("b")
	p.Must[1].Value = "y"
	table.Names()[0] = "z"
	if p, _ := table.Of("b"); !slices.Equal(p.Must, many(2)) || table.Names()[0] != "b" {
		t.Error(p)
	}
}

// TestEnforce (P18.2) has matchers that stand there already, and too many.
func TestEnforce(t *testing.T) {
	x, y, z := matcher("a", "=", "1"), matcher("a", "!=", "1"), matcher("b", "=~", "1")
	stages := []ast.Stage{{Kind: ast.Logfmt}, {Kind: ast.Line, Op: "|=", Value: "x"}}
	for i, c := range []struct {
		must, own, want []ast.Matcher
	}{
		{nil, []ast.Matcher{x}, []ast.Matcher{x}}, {[]ast.Matcher{x, y}, []ast.Matcher{z}, []ast.Matcher{x, y, z}}, {[]ast.Matcher{y, x, z}, []ast.Matcher{x, x}, []ast.Matcher{y, z, x, x}}, {[]ast.Matcher{x}, []ast.Matcher{x}, []ast.Matcher{x}}, {[]ast.Matcher{x, z}, nil, []ast.Matcher{x, z}}, {nil, nil, nil},
		{many(8), many(8), many(8)}, {many(8), many(3), append(many(8)[3:], many(3)...)}, {many(7), []ast.Matcher{x}, append(many(7), x)},
	} {
		q, e := tenant.Policy{Must: c.must}.Enforce(ast.Query{Matchers: c.own, Stages: stages})
		if !ast.Same(q, ast.Query{Matchers: c.want, Stages: stages}) || e != api.OK {
			t.Errorf("%d: %v %d", i, q, e)
		}
	}
	for i, c := range []struct{ must, own []ast.Matcher }{{many(8), []ast.Matcher{x}}, {nil, many(9)}, {many(9), nil}, {many(1), many(9)}, {[]ast.Matcher{x, y}, many(7)}, {many(26), many(26)}} {
		if q, e := (tenant.Policy{Must: c.must}).Enforce(ast.Query{Matchers: c.own, Stages: stages}); !ast.Same(q, ast.Query{}) || e != api.ErrBig {
			t.Errorf("%d: %v %d", i, q, e)
		}
	}
}

// TestEnforceUntouched (P3) has lists with room behind them, and writes into what was told.
func TestEnforceUntouched(t *testing.T) {
	must, own, stages := many(4), many(8)[4:], make([]ast.Stage, 3)
	q, _ := tenant.Policy{Must: must[:2]}.Enforce(ast.Query{Matchers: own[:2], Stages: stages[:1]})
	for i := range q.Matchers {
		q.Matchers[i] = matcher("z", "=", "z")
	}
	q.Stages[0].Kind = 9
	_ = append(q.Stages, ast.Stage{Kind: 9})
	if !slices.Equal(must, many(4)) || !slices.Equal(own, many(8)[4:]) || !slices.Equal(stages, make([]ast.Stage, 3)) {
		t.Error("written into")
	}
}

// TestMay (P18.3) has limits of any size.
func TestMay(t *testing.T) {
	for i, c := range []struct {
		p     tenant.Policy
		limit int
		want  tenant.Quota
	}{
		{tenant.Policy{MaxLines: 5, MaxBytes: 9}, 3, tenant.Quota{Lines: 3, Bytes: 9}}, {tenant.Policy{MaxLines: 5, MaxBytes: 9}, 8, tenant.Quota{Lines: 5, Bytes: 9}}, {tenant.Policy{MaxLines: 5}, -1, tenant.Quota{}}, {tenant.Policy{MaxLines: -5, MaxBytes: 9}, 8, tenant.Quota{Bytes: 9}}, {tenant.Policy{MaxLines: math.MaxInt}, math.MaxInt, tenant.Quota{Lines: math.MaxInt}}, {tenant.Policy{MaxLines: 5}, 0, tenant.Quota{}}, {tenant.Policy{MaxLines: 5}, math.MinInt, tenant.Quota{}},
	} {
		if got := c.p.May(c.limit); got != c.want {
			t.Errorf("%d: %v", i, got)
		}
	}
}

// TestTake (P18.3) has quotas that are enough, and not.
func TestTake(t *testing.T) {
	line := entry.Entry{TS: 5, Labels: label.Set{{Name: "a", Value: "b"}}, Line: "abc"}
	for i, c := range []struct {
		q, want tenant.Quota
		ok      bool
	}{
		{tenant.Quota{Lines: 2, Bytes: 5}, tenant.Quota{Lines: 1, Bytes: 2}, true}, {tenant.Quota{Lines: 1, Bytes: 3}, tenant.Quota{}, true}, {tenant.Quota{Lines: 2, Bytes: 2}, tenant.Quota{Lines: 2, Bytes: 2, Closed: true}, false},
		{tenant.Quota{Lines: 0, Bytes: 9}, tenant.Quota{Bytes: 9, Closed: true}, false}, {tenant.Quota{Lines: -1, Bytes: 9}, tenant.Quota{Lines: -1, Bytes: 9, Closed: true}, false}, {tenant.Quota{Lines: math.MinInt, Bytes: math.MinInt64}, tenant.Quota{Lines: math.MinInt, Bytes: math.MinInt64, Closed: true}, false}, {tenant.Quota{Lines: 5, Bytes: 9, Closed: true}, tenant.Quota{Lines: 5, Bytes: 9, Closed: true}, false}, {tenant.Quota{Lines: 5, Bytes: -1}, tenant.Quota{Lines: 5, Bytes: -1, Closed: true}, false},
	} {
		if got, ok := c.q.Take(line); got != c.want || ok != c.ok {
			t.Errorf("%d: %v %t", i, got, ok)
		}
	}
	if got, ok := (tenant.Quota{Lines: 1}).Take(entry.Entry{}); got != (tenant.Quota{}) || !ok {
		t.Error("a line of nothing")
	}
}

// TestEnforced (P18.4): what an enforced query selects Must tell true of, and a closed quota stays so.
func TestEnforced(t *testing.T) {
	p := tenant.Policy{Name: "t", Must: []ast.Matcher{matcher("app", "=", "a"), matcher("env", "!~", "dev.*")}, MaxLines: 9, MaxBytes: 9}
	must, _ := match.Every(p.Must...)
	selected := 0
	for _, own := range [][]ast.Matcher{{matcher("app", "=~", ".*")}, {matcher("app", "!=", "a")}, {matcher("env", "=", "dev1")}, {matcher("app", "=", "a")}, {matcher("x", "=", "")}} {
		q, _ := p.Enforce(ast.Query{Matchers: own})
		all, _ := match.Every(q.Matchers...)
		for _, app := range []string{"a", "b", ""} {
			for _, env := range []string{"dev1", "prod", ""} {
				s := label.Set{{Name: "app", Value: app}, {Name: "env", Value: env}}
				if all.Test(s) {
					selected++
					if !must.Test(s) {
						t.Error(own, s)
					}
				}
			}
		}
	}
	if selected != 6 {
		t.Error(selected)
	}
	q, ok := p.May(9).Take(entry.Entry{Line: "0123456789"})
	for _, line := range []string{"", "a", "0123456789"} {
		if q, ok = q.Take(entry.Entry{Line: line}); ok || !q.Closed {
			t.Errorf("%q: %v", line, q)
		}
	}
}
