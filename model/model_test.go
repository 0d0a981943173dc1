package model_test

import (
	"math"
	"math/rand"
	"slices"
	"strings"
	"testing"

	"archivist/api"
	"archivist/ast"
	"archivist/entry"
	"archivist/fan"
	"archivist/gate"
	"archivist/label"
	"archivist/model"
	"archivist/parse"
	"archivist/store"
	"archivist/tenant"
)

func of(ts int64, app, line string) entry.Entry {
	return entry.Entry{TS: ts, Labels: label.Set{{Name: "app", Value: app}}, Line: line}
}

func told(l []entry.Entry) string {
	s := ""
	for _, e := range l {
		s += entry.Put(e) + "\n"
	}
	return s
}

func is(t *testing.T, what string, got []entry.Entry, want ...entry.Entry) {
	t.Helper()
	if told(got) != told(want) {
		t.Errorf("%s:\n%snot\n%s", what, told(got), told(want))
	}
}

func query(t *testing.T, s string) ast.Query {
	t.Helper()
	q, at, e := parse.Parse(s)
	if e != api.OK {
		t.Fatal(s, at)
	}
	return q
}

// TestUnion (P22.1) has lists in any order, of entries that are not right too.
func TestUnion(t *testing.T) {
	a, b, c := of(1, "a", ""), of(1, "b", ""), of(2, "a", "x")
	wrong := of(1, "a", strings.Repeat("x", 257))
	twice := entry.Entry{TS: 1, Labels: slices.Concat(a.Labels, a.Labels)}
	is(t, "none", model.Union(true))
	is(t, "nothing", model.Union(true, nil, []entry.Entry{}))
	is(t, "rising", model.Union(true, []entry.Entry{c, wrong, a}, []entry.Entry{b, a, a, twice}), a, b, c)
	is(t, "falling", model.Union(false, []entry.Entry{a, c}, []entry.Entry{b}, []entry.Entry{c}), c, b, a)
	room := []entry.Entry{c, b, a}
	model.Union(true, room[:2])
	is(t, "untouched", room, c, b, a)
	var many []entry.Entry
	for i := range int64(2000) {
		many = append(many, of(i, "a", ""))
	}
	is(t, "many", model.Union(true, many), many...)
}

// TestWithin (P22.1) has entries at, and beside, the ends.
func TestWithin(t *testing.T) {
	l := []entry.Entry{of(5, "a", ""), of(1, "a", ""), of(9, "a", ""), of(5, "a", "")}
	is(t, "some", model.Within(2, 9, l...), l[0], l[3])
	is(t, "all", model.Within(1, 10, l...), l...)
	is(t, "from", model.Within(5, 10, l...), l[0], l[2], l[3])
	is(t, "to", model.Within(0, 5, l...), l[1])
	is(t, "none", model.Within(9, 1, l...))
	is(t, "the same", model.Within(5, 5, l...))
	is(t, "edges", model.Within(math.MinInt64, math.MaxInt64, of(math.MaxInt64, "a", ""), of(math.MinInt64, "a", "")), of(math.MinInt64, "a", ""))
	is(t, "of none", model.Within(0, 9))
}

// TestThrough (P22.1) has queries right, and wrong.
func TestThrough(t *testing.T) {
	l := []entry.Entry{of(2, "a", "n=5"), of(1, "b", "n=5"), of(1, "a", "n=6"), of(0, "a", "n=5")}
	is(t, "some", model.Through(query(t, `{app="a"} | logfmt | n == 5`), l...), l[0], l[3])
	is(t, "none", model.Through(query(t, `{app="c"}`), l...))
	is(t, "of none", model.Through(query(t, `{app="a"}`)))
	for i, q := range []ast.Query{{}, {Matchers: []ast.Matcher{{Name: "app", Op: "?", Value: "a"}}}, {Matchers: query(t, `{app="a"}`).Matchers, Stages: []ast.Stage{{}}}} {
		if got := model.Through(q, l...); len(got) != 0 {
			t.Error(i, told(got))
		}
	}
}

// TestCut (P22.1) has quotas that end at each place.
func TestCut(t *testing.T) {
	l := []entry.Entry{of(1, "a", "xx"), of(2, "a", ""), of(3, "a", "yyy"), of(4, "a", "z")}
	for i, c := range []struct {
		q    tenant.Quota
		want int
	}{{tenant.Quota{Lines: 9, Bytes: 99}, 4}, {tenant.Quota{Lines: 9, Bytes: 6}, 4}, {tenant.Quota{Lines: 9, Bytes: 5}, 3}, {tenant.Quota{Lines: 9, Bytes: 3}, 2}, {tenant.Quota{Lines: 9, Bytes: 2}, 2}, {tenant.Quota{Lines: 9, Bytes: 1}, 0}, {tenant.Quota{Lines: 2, Bytes: 99}, 2}, {tenant.Quota{Bytes: 99}, 0}, {tenant.Quota{Lines: 9, Bytes: 99, Closed: true}, 0}, {tenant.Quota{Lines: -1, Bytes: -1}, 0}} {
		if got := model.Cut(c.q, l...); told(got) != told(l[:c.want]) {
			t.Error(i, told(got))
		}
	}
	if got := model.Cut(tenant.Quota{Lines: 9}); len(got) != 0 {
		t.Error(got)
	}
}

func policy() tenant.Policy {
	return tenant.Policy{Name: "anna", Must: []ast.Matcher{{Name: "app", Op: "!=", Value: "b"}}, MaxLines: 30, MaxBytes: 60}
}

// TestAnswer (P22.2) has all of it together.
func TestAnswer(t *testing.T) {
	lists := [][]entry.Entry{{of(3, "a", "x"), of(1, "a", "x"), of(2, "b", "x")}, {of(2, "c", "xy"), of(1, "a", "x"), of(4, "a", "y"), of(9, "a", "x")}}
	q := query(t, `{app=~".+"} |= "x"`)
	for i, c := range []struct {
		from, to int64
		asc      bool
		limit    int
		want     []entry.Entry
	}{
		{0, 9, true, 99, []entry.Entry{of(1, "a", "x"), of(2, "c", "xy"), of(3, "a", "x")}}, {0, 10, false, 99, []entry.Entry{of(9, "a", "x"), of(3, "a", "x"), of(2, "c", "xy"), of(1, "a", "x")}}, {2, 9, true, 99, []entry.Entry{of(2, "c", "xy"), of(3, "a", "x")}}, {0, 9, true, 2, []entry.Entry{of(1, "a", "x"), of(2, "c", "xy")}}, {0, 9, true, 0, nil}, {0, 9, true, -1, nil}, {9, 0, true, 99, nil},
	} {
		l, e := model.Answer(policy(), q, c.from, c.to, c.asc, c.limit, lists...)
		if told(l) != told(c.want) || e != api.OK {
			t.Errorf("%d: %s%d", i, told(l), e)
		}
	}
	p := policy()
	p.MaxLines = 1
	if l, e := model.Answer(p, q, 0, 9, true, 99, lists...); told(l) != told([]entry.Entry{of(1, "a", "x")}) || e != api.OK {
		t.Error(told(l), e)
	}
	p.MaxLines, p.MaxBytes = 9, 2
	if l, e := model.Answer(p, q, 0, 9, true, 99, lists...); told(l) != told([]entry.Entry{of(1, "a", "x")}) || e != api.OK {
		t.Error(told(l), e)
	}
	if l, e := model.Answer(policy(), q, 0, 9, true, 99); len(l) != 0 || e != api.OK {
		t.Error(e)
	}
}

// TestAnswerErrors (P22.2) has what is not right, and what is too big.
func TestAnswerErrors(t *testing.T) {
	l := []entry.Entry{of(1, "a", "x")}
	q := query(t, `{app="a"}`)
	wrong, big := policy(), policy()
	wrong.MaxLines = -1
	big.Must = slices.Repeat(big.Must, 8)
	for i, c := range []struct {
		p tenant.Policy
		q ast.Query
		e api.Errno
	}{{wrong, q, api.ErrArg}, {tenant.Policy{}, q, api.ErrArg}, {policy(), ast.Query{}, api.ErrArg}, {big, ast.Query{}, api.ErrArg}, {big, q, api.ErrBig}, {policy(), ast.Query{Matchers: q.Matchers, Stages: []ast.Stage{{Kind: 9}}}, api.ErrArg}} {
		if got, e := model.Answer(c.p, c.q, 0, 9, true, 9, l); len(got) != 0 || e != c.e {
			t.Error(i, e)
		}
	}
}

func newGate(t *testing.T, policies []tenant.Policy, l ...*store.Replica) (*gate.Gate, *fan.Fan) {
	t.Helper()
	table, e := tenant.New(policies...)
	f, e2 := fan.New(l...)
	g, e3 := gate.New(table, f)
	if e != api.OK || e2 != api.OK || e3 != api.OK {
		t.Fatal(e, e2, e3)
	}
	return g, f
}

func request() gate.Request {
	return gate.Request{Tenant: "anna", Query: `{app=~".*"}`, From: 0, To: 100, Asc: true, Limit: 99, Width: 10, Page: 2}
}

// TestChain (P22.3) follows cursors, with pages by turns.
func TestChain(t *testing.T) {
	var l []entry.Entry
	for i := range int64(7) {
		l = append(l, of(i*9, "a", "x"))
	}
	for i, c := range []struct {
		pages    []int
		requests int
	}{{nil, 4}, {[]int{1}, 8}, {[]int{7}, 2}, {[]int{8}, 1}, {[]int{3, 1}, 4}, {[]int{1, 2, 3}, 5}, {[]int{1, 2, 1}, 6}, {[]int{64}, 1}} {
		g, _ := newGate(t, []tenant.Policy{policy()}, store.New(l))
		got, requests, e := model.Chain(g, request(), c.pages...)
		if told(got) != told(l) || requests != c.requests || e != api.OK {
			t.Errorf("%d: %d %d\n%s", i, requests, e, told(got))
		}
	}
	// It begins where the request's own cursor leads to.
	g, _ := newGate(t, []tenant.Policy{policy()}, store.New(l))
	r := request()
	r.Cursor = g.Handle(r).Cursor
	got, requests, e := model.Chain(g, r)
	if told(got) != told(l[2:]) || requests != 3 || e != api.OK {
		t.Error(requests, e, told(got))
	}
}

// TestChainErrors (P22.3) ends at the first error, with what was told ahead of it.
func TestChainErrors(t *testing.T) {
	l := []entry.Entry{of(1, "a", "x"), of(2, "a", "x"), of(3, "a", "x")}
	g, _ := newGate(t, []tenant.Policy{policy()}, store.New(l, store.Reply{}, store.Reply{Fail: true}))
	got, requests, e := model.Chain(g, request())
	if told(got) != told(l[:2]) || requests != 2 || e != api.ErrDown {
		t.Error(requests, e, told(got))
	}
	got, requests, e = model.Chain(g, request(), 1, 1, 0, 1)
	if told(got) != told(l[:2]) || requests != 3 || e != api.ErrRange {
		t.Error(requests, e, told(got))
	}
	for _, c := range []struct {
		turn func(r *gate.Request)
		e    api.Errno
	}{{func(r *gate.Request) { r.Tenant = "x" }, api.ErrTenant}, {func(r *gate.Request) { r.Page = 0 }, api.ErrRange}, {func(r *gate.Request) { r.Query = "" }, api.ErrParse}, {func(r *gate.Request) { r.Cursor = "x" }, api.ErrCursor}} {
		r := request()
		c.turn(&r)
		if got, requests, e := model.Chain(g, r); len(got) != 0 || requests != 1 || e != c.e {
			t.Error(requests, e)
		}
	}
}

// TestLongChain (P22.3) ends where there are more requests than a chain may have.
func TestLongChain(t *testing.T) {
	var one, two []entry.Entry
	for i := range int64(400) {
		one, two = append(one, of(2*i, "a", "")), append(two, of(2*i+1, "a", ""))
	}
	p := policy()
	p.MaxLines = 10000
	g, _ := newGate(t, []tenant.Policy{p}, store.New(one), store.New(two))
	r := request()
	r.To, r.Width, r.Limit = 1000, 1000, 10000
	got, requests, e := model.Chain(g, r, 1)
	if len(got) != 512 || requests != 512 || e != api.OK || got[511].TS != 511 {
		t.Error(len(got), requests, e)
	}
	got, requests, e = model.Chain(g, r, 2)
	if len(got) != 800 || requests != 401 || e != api.OK {
		t.Error(len(got), requests, e)
	}
}

// TestChainIsAnswer (P22.4, T1, T2, T5) holds chains of many requests against the plain answer.
func TestChainIsAnswer(t *testing.T) {
	rnd := rand.New(rand.NewSource(23))
	policies := []tenant.Policy{policy(), {Name: "bert", Must: []ast.Matcher{{Name: "app", Op: "=~", Value: "a|b"}, {Name: "x", Op: "=", Value: ""}}, MaxLines: 8, MaxBytes: 1000}, {Name: "carl", MaxLines: 1000, MaxBytes: 1000}}
	queries := []string{`{app=~".*"}`, `{app="a"}`, `{app!="b"} != "y"`, `{app=~"a|c"} | logfmt | n > 1`, `{x=""} |~ "x$" | app!~"c"`}
	for range 400 {
		lists := make([][]entry.Entry, 1+rnd.Intn(4))
		var replicas []*store.Replica
		for i := range lists {
			for range rnd.Intn(30) {
				lists[i] = append(lists[i], of(int64(rnd.Intn(25)), string(rune('a'+rnd.Intn(3))), []string{"", "x", "y", "n=1", "n=2", "n=3 x"}[rnd.Intn(6)]))
			}
			var script []store.Reply
			for range rnd.Intn(30) {
				script = append(script, store.Reply{Most: rnd.Intn(3)})
			}
			replicas = append(replicas, store.New(lists[i], script...))
		}
		g, f := newGate(t, policies, replicas...)
		f.Order(rnd.Perm(5)...)
		p := policies[rnd.Intn(3)]
		r := gate.Request{Tenant: p.Name, Query: queries[rnd.Intn(len(queries))], From: int64(rnd.Intn(5)), To: int64(10 + rnd.Intn(20)), Asc: rnd.Intn(2) == 0, Limit: 1 + rnd.Intn(50), Width: int64(1 + rnd.Intn(30)), Page: 1 + rnd.Intn(9)}
		want, e := model.Answer(p, query(t, r.Query), r.From, r.To, r.Asc, r.Limit, lists...)
		if e != api.OK {
			t.Fatal(e)
		}
		var pages []int
		for range rnd.Intn(4) {
			pages = append(pages, 1+rnd.Intn(9))
		}
		got, requests, e := model.Chain(g, r, pages...)
		if told(got) != told(want) || e != api.OK || requests > len(want)+1 || len(got) > min(r.Limit, p.MaxLines) {
			t.Fatalf("%+v %v: %d %d\n%snot\n%s", r, pages, requests, e, told(got), told(want))
		}
	}
}
