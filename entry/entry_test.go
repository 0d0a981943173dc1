package entry_test

import (
	"math"
	"math/rand"
	"strings"
	"testing"

	"archivist/api"
	"archivist/entry"
	"archivist/label"
)

func set(l ...string) label.Set {
	var s label.Set
	for i := 0; i < len(l); i += 2 {
		s = append(s, label.Pair{Name: l[i], Value: l[i+1]})
	}
	return s
}

func of(ts int64, line string, l ...string) entry.Entry {
	return entry.Entry{TS: ts, Labels: set(l...), Line: line}
}

// TestRight (P13.1) has entries right, and wrong by one thing.
func TestRight(t *testing.T) {
	long := strings.Repeat("v", api.MaxText)
	for i, e := range []entry.Entry{{}, of(math.MinInt64, long, "a", "b"), of(-1, "\x00\n", "a", "", "b", long)} {
		if !entry.Right(e) {
			t.Error("right", i)
		}
	}
	for i, e := range []entry.Entry{of(0, long+"v"), of(0, "", "b", "", "a", ""), of(0, "", "", ""), of(0, "", "a", long+"v"), of(0, "", "a", "", "a", "")} {
		if entry.Right(e) {
			t.Error("wrong", i)
		}
	}
}

// rising has entries in their order, each less than the one behind it.
func rising() []entry.Entry {
	return []entry.Entry{
		of(math.MinInt64, "z", "z", "z"), of(-1, ""), of(0, ""), of(0, "a"), of(0, "aa"), of(0, "b"), of(0, "\xff"), of(0, "", "a", ""), of(0, "z", "a", ""), of(0, "a", "a", "", "b", ""), of(0, "", "a", "1"), of(0, "", "b", ""), of(1, ""), of(math.MaxInt64, ""),
	}
}

// TestOrder (P13.1, P13.3) holds all entries against all.
func TestOrder(t *testing.T) {
	l := rising()
	for i, a := range l {
		for k, b := range l {
			want := 0
			if i < k {
				want = -1
			} else if i > k {
				want = 1
			}
			if got := entry.Order(a, b); got != want || entry.Same(a, b) != (i == k) {
				t.Errorf("%v and %v: %d", a, b, got)
			}
			if entry.Ahead(a, b, true) != (i < k) || entry.Ahead(a, b, false) != (i > k) {
				t.Errorf("%v ahead of %v", a, b)
			}
		}
	}
	if !entry.Same(entry.Entry{Labels: label.Set{}}, entry.Entry{}) {
		t.Error("no labels")
	}
}

// TestCost (P13.1) counts bytes of the line alone.
func TestCost(t *testing.T) {
	for line, want := range map[string]int64{"": 0, "a": 1, "é\n": 3, strings.Repeat("x", 1000): 1000} {
		if got := entry.Cost(of(5, line, "name", "value")); got != want {
			t.Errorf("%q: %d", line, got)
		}
	}
}

// TestSorted (P13.1) has lists of both orders, and of none.
func TestSorted(t *testing.T) {
	l := rising()
	falling := make([]entry.Entry, len(l))
	for i, e := range l {
		falling[len(l)-1-i] = e
	}
	same := []entry.Entry{l[3], l[3], l[3]}
	for i, c := range []struct {
		l         []entry.Entry
		asc, desc bool
	}{
		{nil, true, true}, {l[:1], true, true}, {l, true, false}, {falling, false, true}, {same, true, true}, {[]entry.Entry{l[1], l[1], l[2]}, true, false},
		{[]entry.Entry{l[1], l[3], l[2]}, false, false}, {[]entry.Entry{l[2], l[1], l[3]}, false, false}, {[]entry.Entry{l[1], l[2], l[3], l[0]}, false, false},
	} {
		if entry.Sorted(true, c.l...) != c.asc || entry.Sorted(false, c.l...) != c.desc {
			t.Error(i)
		}
	}
}

// TestPut (P13.2) has entries, right or not.
func TestPut(t *testing.T) {
	for want, e := range map[string]entry.Entry{
		`0{}""`: {}, `-5{a="b"}"x"`: of(-5, "x", "a", "b"), `9223372036854775807{b="",a="\n"}"\"\xff"`: of(math.MaxInt64, "\"\xff", "b", "", "a", "\n"),
	} {
		if got := entry.Put(e); got != want {
			t.Errorf("%s, not %s", got, want)
		}
	}
}

// TestParse (P13.2) has what is no entry.
func TestParse(t *testing.T) {
	for _, s := range []string{
		"", "0", "0{}", "{}\"\"", `{}"x"`, ` 0{}""`, `0 {}""`, `0{} ""`, `00{}""`, `-0{}""`, `+1{}""`, `0x1{}""`, `9223372036854775808{}""`, `-{}""`, `--1{}""`, `0{}x`, `0{}"x`, `0{}"\x41"`, `0{"a"}""`, `0{a="1",a="2"}""`, `0{b="1",a="2"}""`, `0{a="1"""`,
		"0{}\"" + strings.Repeat("v", api.MaxText+1) + "\"", `0{a="` + strings.Repeat("v", api.MaxText+1) + `"}""`, `1.5{}""`, `a{}""`,
	} {
		if e, size, ok := entry.Parse(s); !entry.Same(e, entry.Entry{}) || size != 0 || ok {
			t.Errorf("%q: %v %d %t", s, e, size, ok)
		}
	}
}

// TestThereAndBack (P13.3) parses what is put, with anything behind.
func TestThereAndBack(t *testing.T) {
	rnd := rand.New(rand.NewSource(13))
	values := []string{"", "x", "}", "\"", "\\", "\n\x00\xff", strings.Repeat("\"", api.MaxText)}
	names := []string{"a", "b", "c", "d_1"}
	l := rising()
	for range 500 {
		e := of(int64(rnd.Uint64())>>rnd.Intn(64), values[rnd.Intn(len(values))])
		for _, name := range names[rnd.Intn(len(names)):] {
			e.Labels = append(e.Labels, label.Pair{Name: name, Value: values[rnd.Intn(len(values))]})
		}
		l = append(l, e)
	}
	for _, e := range l {
		put := entry.Put(e)
		for _, tail := range []string{"", "\"", "0", "{}", ` 0{}""`, "\\"} {
			if got, size, ok := entry.Parse(put + tail); !entry.Same(got, e) || size != len(put) || !ok {
				t.Fatalf("%s and %q: %v %d", put, tail, got, size)
			}
		}
		if _, _, ok := entry.Parse(put[:len(put)-1]); ok {
			t.Fatalf("%s is cut", put)
		}
	}
}
