package gate_test

import (
	"math"
	"math/rand"
	"slices"
	"strings"
	"testing"

	"archivist/api"
	"archivist/ast"
	"archivist/cursor"
	"archivist/entry"
	"archivist/fan"
	"archivist/gate"
	"archivist/label"
	"archivist/parse"
	"archivist/pipe"
	"archivist/store"
	"archivist/tenant"
)

func of(ts int64, app, line string) entry.Entry {
	return entry.Entry{TS: ts, Labels: label.Set{{Name: "app", Value: app}}, Line: line}
}

func told(l []entry.Entry) string {
	s := ""
	for _, e := range l {
		s += entry.Put(e) + "\n"
	}
	return s
}

// policies are those of all tests: one sees all, one app a alone, one next to nothing.
func policies() []tenant.Policy {
	return []tenant.Policy{
		{Name: "root", MaxLines: 1000, MaxBytes: 100000},
		{Name: "anna", Must: []ast.Matcher{{Name: "app", Op: "=", Value: "a"}}, MaxLines: 50, MaxBytes: 1000},
		{Name: "few", MaxLines: 3, MaxBytes: 5},
		{Name: "none"},
		{Name: "full", Must: slices.Repeat([]ast.Matcher{{Name: "app", Op: "=", Value: "a"}}, 8), MaxLines: 9, MaxBytes: 9},
	}
}

func policy(name string) tenant.Policy {
	for _, p := range policies() {
		if p.Name == name {
			return p
		}
	}
	return tenant.Policy{}
}

func newGate(t *testing.T, l ...*store.Replica) (*gate.Gate, *fan.Fan) {
	t.Helper()
	table, e := tenant.New(policies()...)
	if e != api.OK {
		t.Fatal(e)
	}
	f, e := fan.New(l...)
	if e != api.OK {
		t.Fatal(e)
	}
	g, e := gate.New(table, f)
	if g == nil || e != api.OK {
		t.Fatal(e)
	}
	return g, f
}

// base is a request that may be: all entries from 0 to 100, rising, in one page.
func base() gate.Request {
	return gate.Request{Tenant: "root", Query: `{app=~".*"}`, From: 0, To: 100, Asc: true, Limit: 1000, Width: 100, Page: 64}
}

func with(turn func(r *gate.Request)) gate.Request {
	r := base()
	turn(&r)
	return r
}

func answers(t *testing.T, g *gate.Gate, r gate.Request, want ...entry.Entry) gate.Answer {
	t.Helper()
	a := g.Handle(r)
	if a.Code != api.OK || a.At != 0 || told(a.L) != told(want) {
		t.Errorf("%+v: %d at %d\n%snot\n%s", r, a.Code, a.At, told(a.L), told(want))
	}
	return a
}

func refuses(t *testing.T, g *gate.Gate, r gate.Request, code api.Errno, at int) {
	t.Helper()
	a := g.Handle(r)
	if a.Code != code || a.At != at || len(a.L) != 0 || a.Cursor != "" {
		t.Errorf("%+v: %+v, not %d at %d", r, a, code, at)
	}
}

// TestNew (P21.1) has what is nil.
func TestNew(t *testing.T) {
	table, _ := tenant.New()
	f, _ := fan.New(store.New(nil))
	for _, c := range []struct {
		t *tenant.Table
		f *fan.Fan
	}{{nil, f}, {table, nil}, {nil, nil}} {
		if g, e := gate.New(c.t, c.f); g != nil || e != api.ErrArg {
			t.Error(e)
		}
	}
	if g, e := gate.New(table, f); g == nil || e != api.OK {
		t.Error(e)
	}
	if gate.MaxPage != 64 {
		t.Error(gate.MaxPage)
	}
}

// TestErrors (P21.1) has each error, and of several the first.
func TestErrors(t *testing.T) {
	g, f := newGate(t, store.New([]entry.Entry{of(1, "a", "x")}))
	for i, c := range []struct {
		r    gate.Request
		code api.Errno
		at   int
	}{
		{gate.Request{}, api.ErrTenant, 0}, {with(func(r *gate.Request) { r.Tenant = "" }), api.ErrTenant, 0}, {with(func(r *gate.Request) { r.Tenant = "Root" }), api.ErrTenant, 0},
		{with(func(r *gate.Request) { r.To = 0 }), api.ErrRange, 0}, {with(func(r *gate.Request) { r.From = 101 }), api.ErrRange, 0}, {with(func(r *gate.Request) { r.Width = 0 }), api.ErrRange, 0}, {with(func(r *gate.Request) { r.Width = -1 }), api.ErrRange, 0}, {with(func(r *gate.Request) { r.Width = 1 }), api.ErrRange, 0}, {with(func(r *gate.Request) { r.From, r.To = math.MinInt64, math.MaxInt64 }), api.ErrRange, 0},
		{with(func(r *gate.Request) { r.Limit = 0 }), api.ErrRange, 0}, {with(func(r *gate.Request) { r.Limit = math.MinInt }), api.ErrRange, 0}, {with(func(r *gate.Request) { r.Page = 0 }), api.ErrRange, 0}, {with(func(r *gate.Request) { r.Page = -1 }), api.ErrRange, 0}, {with(func(r *gate.Request) { r.Page = 65 }), api.ErrRange, 0},
		{with(func(r *gate.Request) { r.Query = "" }), api.ErrParse, 0}, {with(func(r *gate.Request) { r.Query = `{app="a"} | x` }), api.ErrParse, 13}, {with(func(r *gate.Request) { r.Query = `{app=~"("}` }), api.ErrParse, 6}, {with(func(r *gate.Request) { r.Query = `{app=~"(a{20}){20}"}` }), api.ErrBig, 6}, {with(func(r *gate.Request) { r.Query = strings.Repeat(" ", 1025) }), api.ErrBig, 1024},
		{with(func(r *gate.Request) { r.Tenant, r.Query = "full", `{app="b"} |= "x"` }), api.ErrBig, 16}, {with(func(r *gate.Request) { r.Tenant, r.Query = "anna", `{a="",a="",a="",a="",a="",a="",a="",a=""}` }), api.ErrBig, 41},
		{with(func(r *gate.Request) { r.Cursor = "x" }), api.ErrCursor, 0}, {with(func(r *gate.Request) { r.Cursor = " " }), api.ErrCursor, 0},
		// Of several the first is told.
		{with(func(r *gate.Request) { r.Tenant, r.Page, r.Query, r.Cursor = "x", 0, "", "x" }), api.ErrTenant, 0}, {with(func(r *gate.Request) { r.Page, r.Query, r.Cursor = 0, "", "x" }), api.ErrRange, 0}, {with(func(r *gate.Request) { r.Query, r.Cursor = "{", "x" }), api.ErrParse, 1}, {with(func(r *gate.Request) { r.Tenant, r.Query, r.Cursor = "full", `{app="b"}`, "x" }), api.ErrBig, 9}, {with(func(r *gate.Request) { r.Tenant, r.Cursor = "none", "x" }), api.ErrCursor, 0},
	} {
		refuses(t, g, c.r, c.code, c.at)
		if f.Calls() != 0 {
			t.Fatal(i, "replicas were asked")
		}
	}
	answers(t, g, with(func(r *gate.Request) { r.Tenant, r.Query = "full", `{app="a"}` }), of(1, "a", "x"))
}

// TestPage (P21.2) has pages, and what leads from one to the next.
func TestPage(t *testing.T) {
	l := []entry.Entry{of(1, "a", "x"), of(2, "b", "y"), of(3, "a", "z"), of(3, "b", "z"), of(9, "a", "w")}
	g, _ := newGate(t, store.New(l))
	r := with(func(r *gate.Request) { r.Page = 2 })
	one := answers(t, g, r, l[0], l[1])
	r.Cursor = one.Cursor
	two := answers(t, g, r, l[2], l[3])
	r.Cursor = two.Cursor
	if three := answers(t, g, r, l[4]); three.Cursor != "" {
		t.Error(three.Cursor)
	}
	q, _, _ := parse.Parse(r.Query)
	want, _ := cursor.Put(cursor.Cursor{Digest: cursor.Digest("root", ast.Put(q), "0", "100", "asc", "1000"), Lines: 998, Bytes: 99998, Last: l[1]})
	if one.Cursor != want {
		t.Errorf("%s, not %s", one.Cursor, want)
	}
	if c, e := cursor.Get(two.Cursor); e != api.OK || c.Lines != 996 || c.Bytes != 99996 || !entry.Same(c.Last, l[3]) {
		t.Errorf("%+v", c)
	}
	falling := with(func(r *gate.Request) { r.Page, r.Asc, r.Query = 3, false, `{ app =~ ".*" }` })
	one = answers(t, g, falling, l[4], l[3], l[2])
	want, _ = cursor.Put(cursor.Cursor{Digest: cursor.Digest("root", ast.Put(q), "0", "100", "desc", "1000"), Lines: 997, Bytes: 99997, Last: l[2]})
	if one.Cursor != want {
		t.Errorf("%s, not %s", one.Cursor, want)
	}
	falling.Cursor = one.Cursor
	if two := answers(t, g, falling, l[1], l[0]); two.Cursor != "" {
		t.Error(two.Cursor)
	}
	// A page that is just full has a cursor, though nothing may be behind it.
	full := with(func(r *gate.Request) { r.Page = 5 })
	one = answers(t, g, full, l...)
	full.Cursor = one.Cursor
	if two := answers(t, g, full); one.Cursor == "" || two.Cursor != "" {
		t.Error(one.Cursor, two.Cursor)
	}
	if a := answers(t, g, base(), l...); a.Cursor != "" {
		t.Error(a.Cursor)
	}
}

// TestQuota (P21.2) has pages that end where a quota does.
func TestQuota(t *testing.T) {
	l := []entry.Entry{of(1, "a", "xx"), of(2, "a", ""), of(3, "a", "yyyy"), of(4, "a", "z"), of(5, "a", "w")}
	g, f := newGate(t, store.New(l))
	// Of 5 bytes 3 are left, then 4 are asked for: that ends it, though a lesser one would fit.
	r := with(func(r *gate.Request) { r.Tenant = "few" })
	if a := answers(t, g, r, l[0], l[1]); a.Cursor != "" {
		t.Error(a.Cursor)
	}
	r.Page = 1
	r.Cursor = answers(t, g, r, l[0]).Cursor
	r.Cursor = answers(t, g, r, l[1]).Cursor
	if c, e := cursor.Get(r.Cursor); e != api.OK || c.Lines != 1 || c.Bytes != 3 {
		t.Errorf("%+v", c)
	}
	if a := answers(t, g, r); a.Cursor != "" {
		t.Error(a.Cursor)
	}
	// Lines end it, at the limit or at what the tenant may; a full page has no cursor then.
	r = with(func(r *gate.Request) { r.Limit, r.Page = 2, 2 })
	if a := answers(t, g, r, l[0], l[1]); a.Cursor != "" {
		t.Error(a.Cursor)
	}
	r.Limit = 3
	r.Cursor = answers(t, g, r, l[0], l[1]).Cursor
	if a := answers(t, g, r, l[2]); a.Cursor != "" {
		t.Error(a.Cursor)
	}
	r = with(func(r *gate.Request) { r.Tenant, r.From = "few", 4 })
	if a := answers(t, g, r, l[3], l[4]); a.Cursor != "" {
		t.Error(a.Cursor)
	}
	if a := answers(t, g, with(func(r *gate.Request) { r.Limit = 4 }), l[:4]...); a.Cursor != "" {
		t.Error(a.Cursor)
	}
	// Whose quota has no lines is told nothing, and nobody is asked.
	calls := f.Calls()
	if a := answers(t, g, with(func(r *gate.Request) { r.Tenant = "none" })); a.Cursor != "" || f.Calls() != calls {
		t.Error(a.Cursor)
	}
}

// TestCursors (P21.1) has cursors that are of another request, or tell of more than may be.
func TestCursors(t *testing.T) {
	l := []entry.Entry{of(1, "a", "x"), of(2, "a", "y"), of(3, "a", "z")}
	g, f := newGate(t, store.New(l))
	r := with(func(r *gate.Request) { r.Page = 1 })
	r.Cursor = answers(t, g, r, l[0]).Cursor
	calls := f.Calls()
	for i, turn := range []func(r *gate.Request){
		func(r *gate.Request) { r.Tenant = "few" }, func(r *gate.Request) { r.Query = `{app=~".+"}` }, func(r *gate.Request) { r.Query += ` |= ""` }, func(r *gate.Request) { r.From = 1 }, func(r *gate.Request) { r.To = 99 }, func(r *gate.Request) { r.Asc = false }, func(r *gate.Request) { r.Limit = 999 }, func(r *gate.Request) { r.Cursor = r.Cursor[1:] }, func(r *gate.Request) { r.Cursor += "0" },
	} {
		other := r
		turn(&other)
		refuses(t, g, other, api.ErrCursor, 0)
		if f.Calls() != calls {
			t.Error(i)
		}
	}
	// How a request is cut, and how its query is written, may turn.
	for _, turn := range []func(r *gate.Request){func(r *gate.Request) { r.Page = 64 }, func(r *gate.Request) { r.Width, r.Page = 2, 2 }, func(r *gate.Request) { r.Query, r.Page = " { app\t=~ \".*\" } ", 2 }} {
		other := r
		turn(&other)
		answers(t, g, other, l[1], l[2])
	}
	c, _ := cursor.Get(r.Cursor)
	for i, x := range []struct {
		turn func(c *cursor.Cursor)
		code api.Errno
	}{
		{func(c *cursor.Cursor) { c.Lines = 1000 }, api.OK}, {func(c *cursor.Cursor) { c.Lines = 1001 }, api.ErrCursor}, {func(c *cursor.Cursor) { c.Lines = math.MaxInt }, api.ErrCursor}, {func(c *cursor.Cursor) { c.Bytes = 100000 }, api.OK}, {func(c *cursor.Cursor) { c.Bytes = 100001 }, api.ErrCursor},
		{func(c *cursor.Cursor) { c.Last.TS = 0 }, api.OK}, {func(c *cursor.Cursor) { c.Last.TS = -1 }, api.ErrCursor}, {func(c *cursor.Cursor) { c.Last.TS = 99 }, api.OK}, {func(c *cursor.Cursor) { c.Last.TS = 100 }, api.ErrCursor}, {func(c *cursor.Cursor) { c.Last = of(50, "nobody", "") }, api.OK}, {func(c *cursor.Cursor) { c.Digest++ }, api.ErrCursor}, {func(c *cursor.Cursor) { c.Lines = 0 }, api.OK},
	} {
		turned := c
		x.turn(&turned)
		other := r
		other.Cursor, _ = cursor.Put(turned)
		a := g.Handle(other)
		if a.Code != x.code || x.code != api.OK && (len(a.L) != 0 || a.At != 0 || a.Cursor != "") {
			t.Error(i, a)
		}
	}
	// A cursor that has no lines left is told nothing; one that has few is told few.
	c.Lines = 0
	r.Cursor, _ = cursor.Put(c)
	calls = f.Calls()
	if a := answers(t, g, r); a.Cursor != "" || f.Calls() != calls {
		t.Error(a.Cursor)
	}
	c.Lines, c.Bytes = 9, 1
	r.Cursor, _ = cursor.Put(c)
	r.Page = 9
	answers(t, g, r, l[1])
}

// TestApart (T2): entries that a tenant may not see turn no byte of what it is answered.
func TestApart(t *testing.T) {
	mine := []entry.Entry{of(1, "a", "x"), of(5, "a", "n=1"), of(9, "a", "n=2")}
	var both []entry.Entry
	for i := range int64(50) {
		both = append(both, of(i/5, "b", strings.Repeat("y", 200)), of(i, "", ""))
	}
	alone, _ := newGate(t, store.New(mine))
	among, _ := newGate(t, store.New(slices.Concat(mine, both)), store.New(both))
	for _, query := range []string{`{app=~".*"}`, `{app!="b"}`, `{app="b"}`, `{app=""}`, `{x=""} | logfmt | n > 1`, `{x=""} | app="b"`} {
		for _, page := range []int{1, 2, 64} {
			for _, asc := range []bool{true, false} {
				r := with(func(r *gate.Request) { r.Tenant, r.Query, r.Page, r.Asc = "anna", query, page, asc })
				for range 5 {
					a := alone.Handle(r)
					if b := among.Handle(r); gate.Tell(a) != gate.Tell(b) {
						t.Errorf("%s: %s, not %s", query, gate.Tell(b), gate.Tell(a))
					}
					for _, e := range a.L {
						if app, _ := e.Labels.Get("app"); app != "a" {
							t.Errorf("%s: %s", query, entry.Put(e))
						}
					}
					if r.Cursor = a.Cursor; r.Cursor == "" {
						break
					}
				}
			}
		}
	}
}

// TestLabels (P21.2) tells entries as they are, not as the query has turned them.
func TestLabels(t *testing.T) {
	l := []entry.Entry{of(1, "a", "n=1"), of(2, "a", "n=2")}
	g, _ := newGate(t, store.New(l))
	a := answers(t, g, with(func(r *gate.Request) { r.Query = `{app="a"} | logfmt | n > 1` }), l[1])
	a.L[0].Labels[0].Value = "z"
	answers(t, g, base(), l...)
}

// TestDown (P21.2) has replicas that fail, at first, and later on.
func TestDown(t *testing.T) {
	l := []entry.Entry{of(1, "a", "x"), of(2, "a", "y"), of(60, "a", "z")}
	fail, ok := store.Reply{Fail: true}, store.Reply{}
	for i, c := range []struct {
		one, two []store.Reply
		r        gate.Request
		down     bool
	}{
		{[]store.Reply{fail}, []store.Reply{fail}, base(), true}, {[]store.Reply{fail}, []store.Reply{ok}, base(), false}, {[]store.Reply{ok, fail}, []store.Reply{ok, fail}, base(), false},
		// The second piece, or the second time of one piece, fails: nothing is told of the first.
		{[]store.Reply{ok, fail}, []store.Reply{ok, fail}, with(func(r *gate.Request) { r.Width = 50 }), true}, {[]store.Reply{{Most: 1}, fail}, []store.Reply{fail, fail}, base(), true}, {[]store.Reply{{Most: 1}, fail}, []store.Reply{fail, ok}, base(), false}, {[]store.Reply{ok, ok}, []store.Reply{fail, fail}, with(func(r *gate.Request) { r.Width = 50 }), false},
	} {
		g, _ := newGate(t, store.New(l, c.one...), store.New(l, c.two...))
		if c.down {
			refuses(t, g, c.r, api.ErrDown, 0)
		} else if a := answers(t, g, c.r, l...); a.Cursor != "" {
			t.Error(i, a.Cursor)
		}
	}
	// A page that is full ahead of the failure is told.
	g, _ := newGate(t, store.New(l, ok, fail))
	answers(t, g, with(func(r *gate.Request) { r.Width, r.Page = 50, 2 }), l[0], l[1])
}

// TestCalls (T5, P21.2) counts how often replicas are asked.
func TestCalls(t *testing.T) {
	var l []entry.Entry
	for i := range int64(10) {
		l = append(l, of(i*10, "a", "x"))
	}
	for i, c := range []struct {
		r      gate.Request
		script []store.Reply
		want   int
	}{
		{base(), nil, 1}, {with(func(r *gate.Request) { r.Width = 10 }), nil, 10}, {with(func(r *gate.Request) { r.Width = 50 }), nil, 2}, {with(func(r *gate.Request) { r.Page = 3 }), nil, 1}, {with(func(r *gate.Request) { r.Page, r.Width = 3, 10 }), nil, 3}, {with(func(r *gate.Request) { r.Page, r.Width, r.Asc = 3, 10, false }), nil, 3},
		{with(func(r *gate.Request) { r.Page, r.Query = 2, `{app="a"} |= "y"` }), nil, 5}, {with(func(r *gate.Request) { r.Page, r.Query = 3, `{app="a"} |= "y"` }), nil, 4}, {with(func(r *gate.Request) { r.Query = `{app="b"}` }), nil, 1}, {with(func(r *gate.Request) { r.Query, r.Width = `{app="b"}`, 25 }), nil, 4},
		{base(), []store.Reply{{Most: 1}, {Most: 1}, {Most: 2}}, 4}, {with(func(r *gate.Request) { r.Limit, r.Width = 2, 10 }), nil, 3}, {with(func(r *gate.Request) { r.Tenant, r.Width = "few", 10 }), nil, 4}, {with(func(r *gate.Request) { r.Limit, r.Page, r.Width = 2, 2, 10 }), nil, 2},
	} {
		g, f := newGate(t, store.New(l, c.script...))
		if a := g.Handle(c.r); a.Code != api.OK || f.Calls() != c.want {
			t.Errorf("%d: %d calls, not %d", i, f.Calls(), c.want)
		}
	}
	// A cursor leads past the pieces that are read.
	g, f := newGate(t, store.New(l))
	r := with(func(r *gate.Request) { r.Page, r.Width = 3, 10 })
	r.Cursor = g.Handle(r).Cursor
	g.Handle(r)
	if f.Calls() != 3+4 {
		t.Error(f.Calls())
	}
}

// plain tells all that a tenant is to be told of a request, without pages or replicas.
func plain(t *testing.T, r gate.Request, lists [][]entry.Entry) []entry.Entry {
	p := policy(r.Tenant)
	q, _, _ := parse.Parse(r.Query)
	q, _ = p.Enforce(q)
	run, e := pipe.Of(q)
	if e != api.OK {
		t.Fatal(e)
	}
	all := slices.Concat(lists...)
	slices.SortFunc(all, entry.Order)
	all = slices.CompactFunc(all, entry.Same)
	if !r.Asc {
		slices.Reverse(all)
	}
	left := p.May(r.Limit)
	var l []entry.Entry
	for _, e := range all {
		if _, ok := run.Run(e.Labels, e.Line); !ok || e.TS < r.From || e.TS >= r.To {
			continue
		}
		var ok bool
		if left, ok = left.Take(e); !ok {
			return l
		}
		l = append(l, e)
	}
	return l
}

// TestWhole (T1, P21.4) follows the cursors of many requests, however they are cut, and whoever answers how few at a time.
func TestWhole(t *testing.T) {
	rnd := rand.New(rand.NewSource(21))
	queries := []string{`{app=~".*"}`, `{app="a"}`, `{app!="b"} |= "x"`, `{x=""} | logfmt | n >= 2`, `{app=~"a|b"} |~ "^n" | app != "a"`}
	names := []string{"root", "anna", "few"}
	for range 600 {
		lists := make([][]entry.Entry, 1+rnd.Intn(4))
		var replicas []*store.Replica
		for i := range lists {
			for range rnd.Intn(25) {
				lists[i] = append(lists[i], of(int64(rnd.Intn(30)), string(rune('a'+rnd.Intn(3))), []string{"x", "", "n=1", "n=2 x", "n=3"}[rnd.Intn(5)]))
			}
			var script []store.Reply
			for range rnd.Intn(20) {
				script = append(script, store.Reply{Most: rnd.Intn(4)})
			}
			replicas = append(replicas, store.New(lists[i], script...))
		}
		g, f := newGate(t, replicas...)
		r := with(func(r *gate.Request) {
			r.Tenant, r.Query, r.Asc = names[rnd.Intn(3)], queries[rnd.Intn(len(queries))], rnd.Intn(2) == 0
			r.From, r.To, r.Limit = int64(rnd.Intn(10)), int64(15+rnd.Intn(20)), 1+rnd.Intn(60)
		})
		want := plain(t, r, lists)
		var got []entry.Entry
		for pages := 0; ; pages++ {
			r.Page, r.Width = 1+rnd.Intn(8), int64(1+rnd.Intn(40))
			f.Order(rnd.Perm(5)...)
			a := g.Handle(r)
			if a.Code != api.OK || len(a.L) > r.Page || pages > 200 {
				t.Fatalf("%+v: %+v", r, a)
			}
			got = append(got, a.L...)
			if r.Cursor = a.Cursor; r.Cursor == "" {
				break
			}
		}
		if told(got) != told(want) {
			t.Fatalf("%+v\n%snot\n%s", r, told(got), told(want))
		}
	}
}

// TestEdges (T3) has the ends of all numbers.
func TestEdges(t *testing.T) {
	l := []entry.Entry{of(math.MinInt64, "a", ""), of(-1, "a", ""), of(math.MaxInt64-1, "a", ""), of(math.MaxInt64, "a", "")}
	g, _ := newGate(t, store.New(l))
	r := with(func(r *gate.Request) {
		r.From, r.To, r.Width, r.Limit, r.Page = math.MinInt64, math.MaxInt64, math.MaxInt64, math.MaxInt, 1
	})
	for _, e := range l[:3] {
		a := answers(t, g, r, e)
		r.Cursor = a.Cursor
	}
	answers(t, g, r)
	r.Cursor, r.Asc = "", false
	for i := range 3 {
		r.Cursor = answers(t, g, r, l[2-i]).Cursor
	}
}

// TestAny (P1, T3) hands in requests that may be anything: each has an answer, or one error.
func TestAny(t *testing.T) {
	rnd := rand.New(rand.NewSource(24))
	g, _ := newGate(t, store.New([]entry.Entry{of(1, "a", "x"), of(2, "b", "")}, store.Reply{}, store.Reply{Fail: true}))
	numbers := []int64{0, 1, 2, 64, 65, -1, 100, math.MinInt64, math.MaxInt64}
	number := func() int64 { return numbers[rnd.Intn(len(numbers))] }
	texts := []string{"", "root", "anna", "none", `{app=~".*"}`, `{app="a"} | logfmt | n > 1`, "{", "\xff", "c1:"}
	text := func() string { return texts[rnd.Intn(len(texts))] }
	last := ""
	for range 20000 {
		r := gate.Request{Tenant: text(), Query: text(), From: number(), To: number(), Asc: rnd.Intn(2) == 0, Limit: int(number()), Width: number(), Page: int(number()), Cursor: text()}
		if rnd.Intn(2) == 0 {
			r.Cursor = last
		}
		a := g.Handle(r)
		if a.Code < api.OK || a.Code > api.ErrForm || a.Code != api.OK && (len(a.L) > 0 || a.Cursor != "") || len(a.L) > gate.MaxPage || len(a.L) > max(r.Page, 0) {
			t.Fatalf("%+v: %+v", r, a)
		}
		last = a.Cursor
		if back, ok := gate.Read(gate.Tell(a)); !same(back, a) || !ok {
			t.Fatalf("%+v", a)
		}
	}
}
