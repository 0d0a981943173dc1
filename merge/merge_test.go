package merge_test

import (
	"math"
	"math/rand"
	"slices"
	"testing"

	"archivist/entry"
	"archivist/label"
	"archivist/merge"
)

func of(ts int64, app, line string) entry.Entry {
	return entry.Entry{TS: ts, Labels: label.Set{{Name: "app", Value: app}}, Line: line}
}

func told(l []entry.Entry) string {
	s := ""
	for _, e := range l {
		s += entry.Put(e)
	}
	return s
}

// TestAll (P16.1) has lists sorted, and not.
func TestAll(t *testing.T) {
	a, b, c, d := of(1, "a", ""), of(1, "b", ""), of(2, "a", "x"), of(2, "a", "y")
	type lists = [][]entry.Entry
	for i, x := range []struct {
		asc  bool
		most int
		l    lists
		want []entry.Entry
		ok   bool
	}{
		{true, 9, nil, nil, true}, {false, 9, lists{nil, {}}, nil, true},
		{true, 9, lists{{a, c}, {b, d}}, []entry.Entry{a, b, c, d}, true}, {false, 9, lists{{c, a}, {d, b}}, []entry.Entry{d, c, b, a}, true},
		{true, 9, lists{{a, a, b}, {a, b, d}, {d}}, []entry.Entry{a, b, d}, true}, {false, 9, lists{{d, a, a}, {d}}, []entry.Entry{d, a}, true},
		{true, 3, lists{{a, c}, {a, b, d}}, []entry.Entry{a, b, c}, true}, {true, 2, lists{{a, a}, {a, b}}, []entry.Entry{a, b}, true}, {true, 4, lists{{a, b, c, d}}, []entry.Entry{a, b, c, d}, true}, {true, math.MaxInt, lists{{a}}, []entry.Entry{a}, true},
		{true, 0, lists{{a}}, nil, true}, {true, -1, lists{{a}, {b}}, nil, true}, {false, math.MinInt, lists{{a}}, nil, true},
		{true, 9, lists{{b, a}}, nil, false}, {false, 9, lists{{a, b}}, nil, false}, {true, 9, lists{{a, b}, {a, d, c}}, nil, false}, {true, 0, lists{{b, a}}, nil, false}, {true, 1, lists{{a}, {d, c}}, nil, false}, {false, 9, lists{{d, c}, nil, {a}, {a, d}}, nil, false},
	} {
		l, ok := merge.All(x.asc, x.most, x.l...)
		if told(l) != told(x.want) || ok != x.ok {
			t.Errorf("%d: %s %t", i, told(l), ok)
		}
	}
}

// TestFirst (P16.2) has the first at each place.
func TestFirst(t *testing.T) {
	a, b, c := of(1, "a", ""), of(1, "b", ""), of(2, "a", "")
	if e, ok := merge.First(true); !entry.Same(e, entry.Entry{}) || ok {
		t.Error(e, ok)
	}
	for i, x := range []struct {
		asc  bool
		l    []entry.Entry
		want entry.Entry
	}{{true, []entry.Entry{b}, b}, {true, []entry.Entry{b, a, c}, a}, {false, []entry.Entry{b, a, c}, c}, {true, []entry.Entry{a, b, c, a}, a}, {false, []entry.Entry{c, b, a}, c}, {false, []entry.Entry{a, a}, a}} {
		if e, ok := merge.First(x.asc, x.l...); !entry.Same(e, x.want) || !ok {
			t.Error(i, e, ok)
		}
	}
}

// TestUpto (P16.2) has ends among the entries, and beyond.
func TestUpto(t *testing.T) {
	a, b, c := of(1, "a", ""), of(1, "b", ""), of(2, "a", "")
	l := []entry.Entry{c, a, b, a}
	for i, x := range []struct {
		asc  bool
		end  entry.Entry
		want []entry.Entry
	}{{true, b, []entry.Entry{a, b, a}}, {false, b, []entry.Entry{c, b}}, {true, a, []entry.Entry{a, a}}, {false, a, l}, {true, c, l}, {true, of(0, "", ""), nil}, {false, of(9, "", ""), nil}} {
		if got := merge.Upto(x.asc, x.end, l...); told(got) != told(x.want) {
			t.Error(i, told(got))
		}
	}
	if got := merge.Upto(true, a); len(got) != 0 {
		t.Error(got)
	}
}

// TestSpread (P16.3) spreads entries over lists, and shuffles these: it is the same.
func TestSpread(t *testing.T) {
	rnd := rand.New(rand.NewSource(16))
	for range 500 {
		asc := rnd.Intn(2) == 0
		order := func(a, b entry.Entry) int {
			if asc {
				return entry.Order(a, b)
			}
			return entry.Order(b, a)
		}
		lists := make([][]entry.Entry, 1+rnd.Intn(5))
		var all []entry.Entry
		for range rnd.Intn(40) {
			e := of(int64(rnd.Intn(4)), string(rune('a'+rnd.Intn(2))), string(rune('x'+rnd.Intn(2))))
			all = append(all, e)
			for range 1 + rnd.Intn(2) {
				i := rnd.Intn(len(lists))
				lists[i] = append(lists[i], e)
			}
		}
		slices.SortFunc(all, order)
		all = slices.CompactFunc(all, entry.Same)
		for i := range lists {
			slices.SortFunc(lists[i], order)
		}
		for range 3 {
			rnd.Shuffle(len(lists), func(i, k int) { lists[i], lists[k] = lists[k], lists[i] })
			most := rnd.Intn(30)
			l, ok := merge.All(asc, most, lists...)
			if told(l) != told(all[:min(most, len(all))]) || !ok {
				t.Fatalf("%s, not %s", told(l), told(all))
			}
		}
	}
}

// TestUntouched (P3) has lists with room behind them.
func TestUntouched(t *testing.T) {
	room := []entry.Entry{of(1, "a", ""), of(2, "a", ""), of(9, "z", "")}
	l, _ := merge.All(true, 9, room[:1], room[1:2])
	up := merge.Upto(true, room[0], room[:1]...)
	l[0].TS, up[0].TS = 5, 5
	_ = append(append(l, l...), up...)
	if told(room) != told([]entry.Entry{of(1, "a", ""), of(2, "a", ""), of(9, "z", "")}) {
		t.Error(told(room))
	}
}
