package store_test

import (
	"math"
	"math/rand"
	"slices"
	"strings"
	"testing"

	"archivist/api"
	"archivist/ast"
	"archivist/entry"
	"archivist/label"
	"archivist/match"
	"archivist/store"
)

func of(ts int64, app, line string) entry.Entry {
	return entry.Entry{TS: ts, Labels: label.Set{{Name: "app", Value: app}}, Line: line}
}

func every(t *testing.T, op, value string) *match.All {
	t.Helper()
	m, e := match.Every(ast.Matcher{Name: "app", Op: op, Value: value})
	if e != api.OK {
		t.Fatal(e)
	}
	return m
}

// told is what entries are, in a text.
func told(l []entry.Entry) string {
	s := ""
	for _, e := range l {
		s += entry.Put(e)
	}
	return s
}

func asked(t *testing.T, r *store.Replica, a store.Ask, m *match.All, want []entry.Entry, wantMore bool) {
	t.Helper()
	l, more, e := r.Range(a, m)
	if told(l) != told(want) || more != wantMore || e != api.OK {
		t.Errorf("%+v: %s %t %d", a, told(l), more, e)
	}
}

// TestNew (P14.1) has entries that are not right, that stand twice, and too many.
func TestNew(t *testing.T) {
	all := every(t, "=~", ".*")
	wrong := entry.Entry{TS: 1, Line: strings.Repeat("x", api.MaxText+1)}
	r := store.New([]entry.Entry{wrong, of(2, "a", "x"), of(1, "a", "y"), wrong, of(2, "a", "x")})
	if r.Len() != 3 || r.Calls() != 0 {
		t.Error(r.Len(), r.Calls())
	}
	asked(t, r, store.Ask{From: 0, To: 9, Asc: true, Limit: 9}, all, []entry.Entry{of(1, "a", "y"), of(2, "a", "x"), of(2, "a", "x")}, false)
	// Of more than there may be the first ones stay, that are right.
	l := []entry.Entry{wrong}
	for i := range 600 {
		l = append(l, of(int64(1000-i), "a", ""))
	}
	r = store.New(l)
	got, more, _ := r.Range(store.Ask{From: 0, To: 9999, Asc: true, Limit: 9999}, all)
	if r.Len() != api.MaxEntries || len(got) != api.MaxEntries || got[0].TS != 489 || got[511].TS != 1000 || more {
		t.Error(r.Len(), len(got))
	}
	if r := store.New(nil); r.Len() != 0 || r.Calls() != 0 {
		t.Error("of none")
	}
}

// TestRight (P14.1) has what may be asked, and that the wrong is no call.
func TestRight(t *testing.T) {
	r := store.New([]entry.Entry{of(0, "a", "")}, store.Reply{Fail: true})
	all := every(t, "=", "a")
	for i, a := range []store.Ask{{}, {From: 0, To: 1}, {From: 1, To: 1, Limit: 1}, {From: 2, To: 1, Limit: 1}, {From: 0, To: 1, Limit: -1}, {From: math.MaxInt64, To: math.MinInt64, Limit: 1}} {
		if l, more, e := r.Range(a, all); store.Right(a) || len(l) != 0 || more || e != api.ErrArg {
			t.Error(i, e)
		}
	}
	good := store.Ask{From: math.MinInt64, To: math.MaxInt64, Limit: math.MaxInt}
	if l, more, e := r.Range(good, nil); !store.Right(good) || len(l) != 0 || more || e != api.ErrArg || r.Calls() != 0 {
		t.Error(e)
	}
	if l, more, e := r.Range(good, all); len(l) != 0 || more || e != api.ErrDown || r.Calls() != 1 {
		t.Error(e)
	}
	asked(t, r, good, all, []entry.Entry{of(0, "a", "")}, false)
}

// TestRange (P14.2) has the range, the matchers, the way, and the entry behind which it is asked.
func TestRange(t *testing.T) {
	a1, a2, a3, b2 := of(1, "a", "x"), of(2, "a", "x"), of(3, "a", "x"), of(2, "b", "x")
	a2y := of(2, "a", "y")
	r := store.New([]entry.Entry{a3, b2, a2y, a1, a2})
	all, a := every(t, "=~", ".*"), every(t, "=", "a")
	for i, c := range []struct {
		ask  store.Ask
		m    *match.All
		want []entry.Entry
		more bool
	}{
		{store.Ask{From: 1, To: 4, Asc: true, Limit: 5}, all, []entry.Entry{a1, a2, a2y, b2, a3}, false},
		{store.Ask{From: 1, To: 4, Limit: 5}, all, []entry.Entry{a3, b2, a2y, a2, a1}, false},
		{store.Ask{From: 1, To: 4, Asc: true, Limit: 4}, all, []entry.Entry{a1, a2, a2y, b2}, true},
		{store.Ask{From: 1, To: 4, Limit: 1}, all, []entry.Entry{a3}, true},
		{store.Ask{From: 2, To: 3, Asc: true, Limit: 9}, all, []entry.Entry{a2, a2y, b2}, false},
		{store.Ask{From: 2, To: 3, Asc: true, Limit: 2}, a, []entry.Entry{a2, a2y}, false},
		{store.Ask{From: 4, To: 9, Asc: true, Limit: 2}, all, nil, false},
		{store.Ask{From: -9, To: 1, Asc: true, Limit: 2}, all, nil, false},
		{store.Ask{From: 1, To: 4, Asc: true, Limit: 9}, every(t, "=", "c"), nil, false},
		{store.Ask{From: 1, To: 4, Asc: true, Limit: 9, Has: true, After: a2}, all, []entry.Entry{a2y, b2, a3}, false},
		{store.Ask{From: 1, To: 4, Limit: 9, Has: true, After: a2}, all, []entry.Entry{a1}, false},
		{store.Ask{From: 1, To: 4, Limit: 1, Has: true, After: b2}, all, []entry.Entry{a2y}, true},
		{store.Ask{From: 1, To: 4, Asc: true, Limit: 9, After: a3}, all, []entry.Entry{a1, a2, a2y, b2, a3}, false},
		{store.Ask{From: 1, To: 4, Asc: true, Limit: 9, Has: true, After: of(2, "aa", "")}, all, []entry.Entry{b2, a3}, false},
		{store.Ask{From: 2, To: 4, Asc: true, Limit: 9, Has: true, After: entry.Entry{TS: -5}}, a, []entry.Entry{a2, a2y, a3}, false},
		{store.Ask{From: 1, To: 4, Asc: true, Limit: 9, Has: true, After: a3}, all, nil, false},
	} {
		for range 2 {
			l, more, e := r.Range(c.ask, c.m)
			if told(l) != told(c.want) || more != c.more || e != api.OK {
				t.Errorf("%d: %s %t %d", i, told(l), more, e)
			}
		}
	}
}

// TestScript (P14.2) has calls that fail, and that have few.
func TestScript(t *testing.T) {
	l := []entry.Entry{of(1, "a", ""), of(2, "a", ""), of(3, "a", "")}
	script := []store.Reply{{Most: 2}, {Fail: true, Most: 1}, {Most: -5}, {Most: 3}, {Most: 9}, {Most: 1}}
	r := store.New(l, script...)
	script[0].Fail = true
	a, all := store.Ask{From: 0, To: 9, Asc: true, Limit: 9}, every(t, "=", "a")
	asked(t, r, a, all, l[:2], true)
	if got, more, e := r.Range(a, all); len(got) != 0 || more || e != api.ErrDown {
		t.Error(e)
	}
	asked(t, r, a, all, l, false)
	asked(t, r, a, all, l, false)
	asked(t, r, store.Ask{From: 0, To: 9, Asc: true, Limit: 2}, all, l[:2], true)
	asked(t, r, store.Ask{From: 0, To: 9, Limit: 2}, all, l[2:], true)
	asked(t, r, a, all, l, false)
	if r.Calls() != 7 {
		t.Error(r.Calls())
	}
}

// TestNotShared (P3) writes into what was handed in, and into what was told.
func TestNotShared(t *testing.T) {
	l := []entry.Entry{of(1, "a", ""), of(2, "a", "")}
	r := store.New(l)
	l[0].Labels[0].Value, l[1] = "b", entry.Entry{}
	a, all := store.Ask{From: 0, To: 9, Asc: true, Limit: 9}, every(t, "=", "a")
	got, _, _ := r.Range(a, all)
	got[0].Labels[0].Value, got[1] = "c", entry.Entry{}
	asked(t, r, a, all, []entry.Entry{of(1, "a", ""), of(2, "a", "")}, false)
}

// TestOnBehind (P14.3) asks on behind the last that was told: each entry is told.
func TestOnBehind(t *testing.T) {
	rnd := rand.New(rand.NewSource(14))
	all := every(t, "!=", "c")
	for range 300 {
		var l []entry.Entry
		var want []string
		for range rnd.Intn(30) {
			e := of(int64(rnd.Intn(6)), string(rune('a'+rnd.Intn(3))), string(rune('x'+rnd.Intn(3))))
			l = append(l, e)
			if e.Labels[0].Value != "c" {
				want = append(want, entry.Put(e))
			}
		}
		var script []store.Reply
		for range rnd.Intn(10) {
			script = append(script, store.Reply{Most: rnd.Intn(4)})
		}
		r := store.New(l, script...)
		a := store.Ask{From: 0, To: 9, Asc: rnd.Intn(2) == 0, Limit: 1 + rnd.Intn(4)}
		var got []string
		for more := true; more; a.Has = true {
			var part []entry.Entry
			part, more, _ = r.Range(a, all)
			for _, e := range part {
				got = append(got, entry.Put(e))
				a.After = e
			}
		}
		slices.Sort(got)
		slices.Sort(want)
		if !slices.Equal(slices.Compact(got), slices.Compact(want)) {
			t.Fatalf("%q, not %q", got, want)
		}
	}
}
