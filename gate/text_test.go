package gate_test

import (
	"math"
	"math/rand"
	"strings"
	"testing"

	"archivist/api"
	"archivist/entry"
	"archivist/gate"
	"archivist/store"
)

// TestPut (P21.3) has requests, right or not.
func TestPut(t *testing.T) {
	r := gate.Request{Tenant: "a b", Query: `{a="b"}`, From: -5, To: math.MaxInt64, Limit: -1, Width: 10, Page: 3, Cursor: "c\n"}
	if got := gate.Put(r); got != `"a b" "{a=\"b\"}" -5 9223372036854775807 desc -1 10 3 "c\n"` {
		t.Error(got)
	}
	if got := gate.Put(gate.Request{Asc: true}); got != `"" "" 0 0 asc 0 0 0 ""` {
		t.Error(got)
	}
}

// TestGet (P21.3, T4) gets requests that are put, and none of what is not.
func TestGet(t *testing.T) {
	rnd := rand.New(rand.NewSource(22))
	texts := []string{"", "a", "\"", " ", "\n\xff", "asc 5"}
	text := func() string { return texts[rnd.Intn(len(texts))] }
	number := func() int64 { return int64(rnd.Uint64()) >> rnd.Intn(64) }
	for range 300 {
		r := gate.Request{Tenant: text(), Query: text(), From: number(), To: number(), Asc: rnd.Intn(2) == 0, Limit: int(number()), Width: number(), Page: int(number()), Cursor: text()}
		s := gate.Put(r)
		if got, e := gate.Get(s); got != r || e != api.OK {
			t.Fatalf("%s: %+v %d", s, got, e)
		}
		for i := range s {
			if got, e := gate.Get(s[:i]); got != (gate.Request{}) || e != api.ErrForm {
				t.Fatalf("%s is cut at %d", s, i)
			}
		}
	}
	for _, s := range []string{
		"", `""`, `"" ""`, `"" "" 0 0 asc 0 0 0 "" `, ` "" "" 0 0 asc 0 0 0 ""`, `"" "" 0 0 asc 0 0 0 ""x`, `"" ""  0 0 asc 0 0 0 ""`, `"""" 0 0 asc 0 0 0 ""`, `"" "" 0 0 Asc 0 0 0 ""`, `"" "" 0 0 ascdesc 0 0 0 ""`, `"" "" 0 0  0 0 0 ""`, `"" "" 0 0 0 0 0 ""`, `"" "" 00 0 asc 0 0 0 ""`, `"" "" 0 -0 asc 0 0 0 ""`, `"" "" 0 0 asc +1 0 0 ""`, `"" "" 0 0 asc 0 0 9223372036854775808 ""`, `"" "" 0 0 asc 0 0 0`, `"" "" 0 0 asc 0 0 0 "" ""`, `a "" 0 0 asc 0 0 0 ""`, `"\x41" "" 0 0 asc 0 0 0 ""`, `"" "" "0" 0 asc 0 0 0 ""`, "\"\"\t\"\" 0 0 asc 0 0 0 \"\"", `"" "" 0 0 asc 0 0 0 "`, `"" "" 0 0 desk 0 0 0 ""`, `"" "" 0 0 asc 0 0 0""`, `"" "" 0 0asc 0 0 0 ""`, `"" "" 0 0 asc0 0 0 ""`,
	} {
		if got, e := gate.Get(s); got != (gate.Request{}) || e != api.ErrForm {
			t.Errorf("%q: %+v %d", s, got, e)
		}
	}
}

func same(a, b gate.Answer) bool {
	return a.Code == b.Code && a.At == b.At && told(a.L) == told(b.L) && a.Cursor == b.Cursor
}

// TestTell (P21.3) tells answers, and reads them.
func TestTell(t *testing.T) {
	for want, a := range map[string]gate.Answer{
		`0 0 ""`: {}, `8 0 ""`: {Code: api.ErrForm}, `2 13 "c\n"`: {Code: api.ErrParse, At: 13, Cursor: "c\n"}, `-1 -5 1{app="a"}"x" 2{app="b"}"" ""`: {Code: -1, At: -5, L: []entry.Entry{of(1, "a", "x"), of(2, "b", "")}},
	} {
		if got := gate.Tell(a); got != want {
			t.Errorf("%s, not %s", got, want)
		}
		if got, ok := gate.Read(want); !same(got, a) || !ok {
			t.Errorf("%s: %+v %t", want, got, ok)
		}
	}
}

// TestRead (P21.3) has what is no answer.
func TestRead(t *testing.T) {
	var a gate.Answer
	for range gate.MaxPage {
		a.L = append(a.L, of(-1, "a", " \"x\" 5{}"))
	}
	s := gate.Tell(a)
	if got, ok := gate.Read(s); !same(got, a) || !ok {
		t.Error(got, ok)
	}
	a.L = append(a.L, of(1, "a", ""))
	long := strings.Repeat("x", api.MaxText+1)
	for _, s := range []string{
		gate.Tell(a), gate.Tell(gate.Answer{L: []entry.Entry{of(1, "a", long)}}), gate.Tell(gate.Answer{L: []entry.Entry{{Labels: append(of(1, "a", "").Labels, of(1, "a", "").Labels...)}}}),
		"", "0", "0 0", "0 0 ", `0 ""`, ` 0 0 ""`, `0 0 "" `, `0 0  ""`, `0 0""`, `00 0 ""`, `0 -0 ""`, `0 0 "`, `0 0 ""x`, `0 0 "" ""`, `0 0 1{}"" `, `0 0 1{}""`, `0 0 1{}""""`, `0 0 1{}""2{}"" ""`, `0 0 1{} ""`, `0 0 "" 1{}""`, `x 0 ""`, `9223372036854775808 0 ""`, `0 0 1{}""  ""`, "0\t0 \"\"",
	} {
		if got, ok := gate.Read(s); !same(got, gate.Answer{}) || ok {
			t.Errorf("%.60q: %+v %t", s, got, ok)
		}
	}
}

// TestServe (P21.3) serves what Handle answers.
func TestServe(t *testing.T) {
	g, f := newGate(t, store.New([]entry.Entry{of(1, "a", "x"), of(2, "b", "y")}))
	r := base()
	if got := g.Serve(gate.Put(r)); got != `0 0 1{app="a"}"x" 2{app="b"}"y" ""` {
		t.Error(got)
	}
	r.Page = 1
	if got, want := g.Serve(gate.Put(r)), gate.Tell(g.Handle(r)); got != want || !strings.Contains(got, `"c1:`) {
		t.Error(got, want)
	}
	r.Query = "{"
	if got := g.Serve(gate.Put(r)); got != `2 1 ""` {
		t.Error(got)
	}
	calls := f.Calls()
	for _, s := range []string{"", "x", gate.Put(r) + " ", strings.Repeat("\"", 1<<20)} {
		if got := g.Serve(s); got != `8 0 ""` || f.Calls() != calls {
			t.Errorf("%.60q: %s", s, got)
		}
	}
}
