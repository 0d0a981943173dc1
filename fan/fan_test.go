package fan_test

import (
	"math"
	"math/rand"
	"slices"
	"testing"

	"archivist/api"
	"archivist/ast"
	"archivist/entry"
	"archivist/fan"
	"archivist/label"
	"archivist/match"
	"archivist/store"
)

func of(ts int64, app string) entry.Entry {
	return entry.Entry{TS: ts, Labels: label.Set{{Name: "app", Value: app}}}
}

func list(times ...int64) []entry.Entry {
	var l []entry.Entry
	for _, ts := range times {
		l = append(l, of(ts, "a"))
	}
	return l
}

func every(t *testing.T, op, value string) *match.All {
	t.Helper()
	m, e := match.Every(ast.Matcher{Name: "app", Op: op, Value: value})
	if e != api.OK {
		t.Fatal(e)
	}
	return m
}

func newFan(t *testing.T, l ...*store.Replica) *fan.Fan {
	t.Helper()
	f, e := fan.New(l...)
	if f == nil || e != api.OK {
		t.Fatal(e)
	}
	return f
}

func told(l []entry.Entry) string {
	s := ""
	for _, e := range l {
		s += entry.Put(e)
	}
	return s
}

func ask(asc bool, limit int) store.Ask {
	return store.Ask{From: 0, To: 100, Asc: asc, Limit: limit}
}

func fetches(t *testing.T, f *fan.Fan, a store.Ask, want []entry.Entry, wantMore bool) {
	t.Helper()
	l, more, e := f.Fetch(a, every(t, "=", "a"))
	if told(l) != told(want) || more != wantMore || e != api.OK {
		t.Errorf("%s %t %d, not %s", told(l), more, e, told(want))
	}
}

// TestNew (P20.1) has replicas that are too few, too many, or none.
func TestNew(t *testing.T) {
	r := store.New(list(1))
	for i, l := range [][]*store.Replica{nil, {nil}, {r, nil}, {nil, r}, {r, r, r, r, r}} {
		if f, e := fan.New(l...); f != nil || e != api.ErrArg {
			t.Error(i, e)
		}
	}
	for n := 1; n <= 4; n++ {
		if f := newFan(t, slices.Repeat([]*store.Replica{r}, n)...); f.Many() != n || f.Calls() != 0 {
			t.Error(n, f.Many(), f.Calls())
		}
	}
	// The list is not kept, the replicas are.
	l := []*store.Replica{r}
	f := newFan(t, l...)
	l[0] = nil
	fetches(t, f, ask(true, 1), list(1), false)
	if r.Calls() != 1 || f.Calls() != 1 {
		t.Error(r.Calls())
	}
}

// TestTwice (P20.1) has one replica twice, that is asked twice.
func TestTwice(t *testing.T) {
	r := store.New(list(1, 2), store.Reply{Fail: true}, store.Reply{Most: 1})
	f := newFan(t, r, r)
	fetches(t, f, ask(true, 9), list(1), true)
	if r.Calls() != 2 || f.Calls() != 4 {
		t.Error(r.Calls(), f.Calls())
	}
}

// TestFetch (P20.2) has replicas that have all, or few, together.
func TestFetch(t *testing.T) {
	few := func(n int, times ...int64) *store.Replica {
		return store.New(list(times...), store.Reply{Most: n})
	}
	fail := func() *store.Replica { return store.New(list(50), store.Reply{Fail: true}) }
	for i, c := range []struct {
		l    []*store.Replica
		a    store.Ask
		want []entry.Entry
		more bool
	}{
		{[]*store.Replica{few(0, 1, 3), few(0, 2, 3)}, ask(true, 9), list(1, 2, 3), false},
		{[]*store.Replica{few(0, 1, 3), few(0, 2, 3)}, ask(false, 9), list(3, 2, 1), false},
		{[]*store.Replica{few(0), few(0)}, ask(true, 9), nil, false},
		{[]*store.Replica{few(0, 1, 1, 1), few(0, 1)}, ask(true, 9), list(1), false},
		// What stands behind the end of one that has more is not told.
		{[]*store.Replica{few(2, 1, 3, 5), few(0, 2, 4, 6)}, ask(true, 9), list(1, 2, 3), true},
		{[]*store.Replica{few(2, 1, 3, 5), few(0, 2, 4, 6)}, ask(false, 9), list(6, 5, 4, 3), true},
		{[]*store.Replica{few(2, 1, 3, 5), few(1, 2, 4, 6)}, ask(true, 9), list(1, 2), true},
		{[]*store.Replica{few(1, 1, 3, 5), few(2, 2, 4, 6)}, ask(false, 9), list(6, 5), true},
		{[]*store.Replica{few(2, 1, 3, 5), few(0)}, ask(true, 9), list(1, 3), true},
		{[]*store.Replica{few(0, 1, 2), few(1, 8, 9)}, ask(true, 9), list(1, 2, 8), true},
		{[]*store.Replica{few(0, 1, 2, 3), few(0, 1, 2, 3)}, ask(true, 2), list(1, 2), true},
		{[]*store.Replica{few(0, 1, 3, 5), few(0, 2, 4)}, ask(true, 2), list(1, 2, 3), true},
		{[]*store.Replica{few(0, 1, 3), few(0, 2, 4)}, ask(true, 2), list(1, 2, 3, 4), false},
		// Those that fail tell nothing.
		{[]*store.Replica{fail(), few(0, 1)}, ask(true, 9), list(1), false},
		{[]*store.Replica{few(0), fail(), fail()}, ask(true, 9), nil, false},
		{[]*store.Replica{fail(), few(1, 1, 2), fail(), few(0, 3)}, ask(true, 9), list(1), true},
		{[]*store.Replica{few(0, 1, 3)}, store.Ask{From: 0, To: 9, Asc: true, Limit: 9, Has: true, After: of(1, "a")}, list(3), false},
	} {
		f := newFan(t, c.l...)
		fetches(t, f, c.a, c.want, c.more)
		if f.Calls() != len(c.l) {
			t.Error(i, f.Calls())
		}
		for _, r := range c.l {
			if r.Calls() != 1 {
				t.Error(i, r.Calls())
			}
		}
	}
}

// TestWrong (P20.2) has what may not be asked, and replicas that all fail.
func TestWrong(t *testing.T) {
	r := store.New(list(1), store.Reply{Fail: true})
	f := newFan(t, r, r)
	m := every(t, "=", "a")
	for i, c := range []struct {
		a store.Ask
		m *match.All
		e api.Errno
	}{{store.Ask{From: 1, To: 1, Limit: 1}, m, api.ErrArg}, {store.Ask{From: 0, To: 1}, m, api.ErrArg}, {store.Ask{From: math.MaxInt64, To: math.MinInt64, Limit: 1}, m, api.ErrArg}, {ask(true, 1), nil, api.ErrArg}} {
		if l, more, e := f.Fetch(c.a, c.m); len(l) != 0 || more || e != c.e || f.Calls() != 0 {
			t.Error(i, e, f.Calls())
		}
	}
	down := newFan(t, store.New(list(1), store.Reply{Fail: true}), store.New(list(1), store.Reply{Fail: true}))
	if l, more, e := down.Fetch(ask(true, 9), m); len(l) != 0 || more || e != api.ErrDown || down.Calls() != 2 {
		t.Error(e)
	}
	fetches(t, down, ask(true, 9), list(1), false)
}

// TestMatchers (P20.2) hands the matchers on.
func TestMatchers(t *testing.T) {
	f := newFan(t, store.New([]entry.Entry{of(1, "a"), of(2, "b")}), store.New([]entry.Entry{of(3, "b")}))
	l, _, _ := f.Fetch(ask(true, 9), every(t, "!=", "a"))
	if told(l) != told([]entry.Entry{of(2, "b"), of(3, "b")}) {
		t.Error(told(l))
	}
}

// TestAnyOrder (P20.3) asks in each order: it is the same, and nothing is missing ahead of the end.
func TestAnyOrder(t *testing.T) {
	rnd := rand.New(rand.NewSource(20))
	m := every(t, "=", "a")
	for range 300 {
		lists := make([][]entry.Entry, 1+rnd.Intn(4))
		scripts := make([]store.Reply, len(lists))
		var have []entry.Entry
		for i := range lists {
			for range rnd.Intn(8) {
				lists[i] = append(lists[i], of(int64(rnd.Intn(12)), "a"))
			}
			scripts[i] = store.Reply{Fail: rnd.Intn(4) == 0, Most: rnd.Intn(5)}
			if !scripts[i].Fail {
				have = append(have, lists[i]...)
			}
		}
		a := ask(rnd.Intn(2) == 0, 1+rnd.Intn(6))
		first := ""
		for k := range 5 {
			var l []*store.Replica
			for i := range lists {
				l = append(l, store.New(lists[i], scripts[i]))
			}
			f := newFan(t, l...)
			f.Order(rnd.Perm(7)...)
			got, more, e := f.Fetch(a, m)
			all := told(got) + string(rune('0'+e))
			if k > 0 && all != first {
				t.Fatalf("%s, not %s", all, first)
			}
			first = all
			if !entry.Sorted(a.Asc, got...) {
				t.Fatal(told(got))
			}
			for _, e := range have {
				missing := !slices.ContainsFunc(got, func(o entry.Entry) bool { return entry.Same(o, e) })
				if missing && (!more || entry.Ahead(e, got[len(got)-1], a.Asc)) {
					t.Fatalf("%s is missing in %s", entry.Put(e), told(got))
				}
			}
		}
	}
}
