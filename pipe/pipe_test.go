package pipe_test

import (
	"math"
	"slices"
	"testing"

	"archivist/api"
	"archivist/ast"
	"archivist/label"
	"archivist/parse"
	"archivist/pipe"
)

func set(l ...string) label.Set {
	var s label.Set
	for i := 0; i < len(l); i += 2 {
		s = append(s, label.Pair{Name: l[i], Value: l[i+1]})
	}
	return s
}

func query(t *testing.T, s string) ast.Query {
	t.Helper()
	q, at, e := parse.Parse(s)
	if e != api.OK {
		t.Fatalf("%s: %d %d", s, at, e)
	}
	return q
}

func of(t *testing.T, s string) *pipe.Pipe {
	t.Helper()
	p, e := pipe.Of(query(t, s))
	if p == nil || e != api.OK {
		t.Fatalf("%s: %d", s, e)
	}
	return p
}

// TestMeasure (P12.1) has values of all units, and of none.
func TestMeasure(t *testing.T) {
	for i, c := range []struct {
		value string
		unit  int
		want  int64
		ok    bool
	}{
		{"5", ast.Number, 5, true}, {"-9223372036854775808", ast.Number, math.MinInt64, true}, {"05", ast.Number, 0, false}, {"5s", ast.Number, 0, false}, {"", ast.Number, 0, false},
		{"5m", ast.Duration, 300000000000, true}, {"1h30m", ast.Duration, 5400000000000, true}, {"5", ast.Duration, 0, false}, {"5B", ast.Duration, 0, false}, {"0s", ast.Duration, 0, true},
		{"2KB", ast.Bytes, 2048, true}, {"2", ast.Bytes, 0, false}, {"2s", ast.Bytes, 0, false}, {"0B", ast.Bytes, 0, true},
		{"5", 3, 0, false}, {"5", -1, 0, false}, {"5s", math.MaxInt, 0, false},
	} {
		if n, ok := pipe.Measure(c.value, c.unit); n != c.want || ok != c.ok {
			t.Errorf("%d: %d %t", i, n, ok)
		}
	}
}

// TestOf (P12.2) has queries wrong by one thing.
func TestOf(t *testing.T) {
	right := query(t, `{a="b"} | logfmt`)
	for i, turn := range []func(q *ast.Query){
		func(q *ast.Query) { q.Matchers = nil }, func(q *ast.Query) { q.Matchers[0].Op = "" }, func(q *ast.Query) { q.Stages[0].Name = "x" }, func(q *ast.Query) { q.Stages = make([]ast.Stage, 1) },
		func(q *ast.Query) { q.Matchers = make([]ast.Matcher, 9) }, func(q *ast.Query) { q.Stages = append(q.Stages, make([]ast.Stage, 16)...) },
	} {
		q := ast.Query{Matchers: slices.Clone(right.Matchers), Stages: slices.Clone(right.Stages)}
		turn(&q)
		if p, e := pipe.Of(q); p != nil || e != api.ErrArg {
			t.Error(i, e)
		}
	}
}

// TestSelects (P12.2) asks the matchers alone.
func TestSelects(t *testing.T) {
	p := of(t, `{a="b",c!="d"} |= "x"`)
	for i, c := range []struct {
		s    label.Set
		want bool
	}{{set("a", "b"), true}, {set("a", "b", "c", "e"), true}, {set("a", "b", "c", "d"), false}, {set("c", "e"), false}, {nil, false}} {
		if got := p.Selects(c.s); got != c.want {
			t.Error(i, got)
		}
	}
}

// TestRun (P12.3) has each kind of stage, and some of them together.
func TestRun(t *testing.T) {
	a := set("app", "a")
	for i, c := range []struct {
		query string
		s     label.Set
		line  string
		want  label.Set // nil, if it does not let it through
	}{
		{`{app="a"}`, a, "", a}, {`{app="a"}`, set("app", "b"), "", nil}, {`{app="a"}`, nil, "", nil}, {`{app="a",x="1"} | logfmt`, a, "x=1", nil},
		{`{app="a"} |= "x"`, a, "axb", a}, {`{app="a"} |= "x"`, a, "ab", nil}, {`{app="a"} != "x"`, a, "ab", a}, {`{app="a"} != "x"`, a, "xb", nil}, {`{app="a"} |~ "^x"`, a, "xb", a}, {`{app="a"} |~ "^x"`, a, "bx", nil}, {`{app="a"} !~ "x$"`, a, "xb", a}, {`{app="a"} !~ "x$"`, a, "bx", nil}, {`{app="a"} |= "x" |= "y"`, a, "xy", a}, {`{app="a"} |= "x" |= "y"`, a, "x", nil}, {`{app="a"} |= "x" |= "y"`, a, "y", nil},
		{`{app="a"} | logfmt`, a, "", a}, {`{app="a"} | logfmt`, a, "z=1 b=2 app=c 9=x", set("app", "a", "b", "2", "z", "1")}, {`{app="a"} | logfmt | logfmt`, a, "b=1 b=2", set("app", "a", "b", "1")}, {`{app="a"} | logfmt`, set("app", "a", "b", ""), "b=1", set("app", "a", "b", "")}, {`{app="a"} | logfmt`, a, `m="x y" n`, set("app", "a", "m", "x y", "n", "")},
		{`{app="a"} | b="1"`, a, "b=1", nil}, {`{app="a"} | logfmt | b="1"`, a, "b=1", set("app", "a", "b", "1")}, {`{app="a"} | b="1" | logfmt`, a, "b=1", nil}, {`{app="a"} | logfmt | b!="1"`, a, "b=1", nil}, {`{app="a"} | b!="1"`, a, "", a}, {`{app="a"} | b=""`, a, "", a}, {`{app="a"} | b!=""`, a, "", nil}, {`{app="a"} | app=~"a|b"`, a, "", a}, {`{app="a"} | app=~"b*"`, a, "", nil}, {`{app="a"} | b=~"b*"`, a, "", a}, {`{app="a"} | app!~"a+"`, a, "", nil}, {`{app="a"} | logfmt | b=""`, a, "b=", set("app", "a", "b", "")}, {`{app="a"} | app="a" | app="b"`, a, "", nil},
		{`{app="a"} | logfmt | n == 5`, a, "n=5", set("app", "a", "n", "5")}, {`{app="a"} | logfmt | n == 5`, a, "n=6", nil}, {`{app="a"} | logfmt | n == 5`, a, "n=05", nil}, {`{app="a"} | logfmt | n == 5`, a, "n=5s", nil}, {`{app="a"} | n == 5`, a, "n=5", nil}, {`{app="a"} | n == 0`, a, "", nil},
		{`{app="a"} | logfmt | n != 5`, a, "n=6", set("app", "a", "n", "6")}, {`{app="a"} | logfmt | n != 5`, a, "n=5", nil}, {`{app="a"} | logfmt | n != 5`, a, "n=x", nil}, {`{app="a"} | logfmt | n != 5`, a, "n=", nil}, {`{app="a"} | n != 5`, a, "", nil},
		{`{app="a"} | n > 5`, set("app", "a", "n", "6"), "", set("app", "a", "n", "6")}, {`{app="a"} | n > 5`, set("app", "a", "n", "5"), "", nil}, {`{app="a"} | n >= 5`, set("app", "a", "n", "5"), "", set("app", "a", "n", "5")}, {`{app="a"} | n >= 5`, set("app", "a", "n", "4"), "", nil}, {`{app="a"} | n < 5`, set("app", "a", "n", "-6"), "", set("app", "a", "n", "-6")}, {`{app="a"} | n < 5`, set("app", "a", "n", "5"), "", nil}, {`{app="a"} | n <= 5`, set("app", "a", "n", "5"), "", set("app", "a", "n", "5")}, {`{app="a"} | n <= 5`, set("app", "a", "n", "6"), "", nil},
		{`{app="a"} | logfmt | d > 90s`, a, "d=1m31s", set("app", "a", "d", "1m31s")}, {`{app="a"} | logfmt | d > 90s`, a, "d=1m30s", nil}, {`{app="a"} | logfmt | d > 90s`, a, "d=100", nil}, {`{app="a"} | logfmt | d == 90s`, a, "d=1m30s", set("app", "a", "d", "1m30s")}, {`{app="a"} | logfmt | z >= 1KB`, a, "z=1024B", set("app", "a", "z", "1024B")}, {`{app="a"} | logfmt | z >= 1KB`, a, "z=1024", nil}, {`{app="a"} | logfmt | z != 1KB`, a, "z=1KB", nil}, {`{app="a"} | logfmt | z == 0B`, a, "z=0GB", set("app", "a", "z", "0GB")},
		// Labels that are no right set are told as they are, but behind fields.
		{`{app="a"}`, set("z", "1", "app", "a", "z", "2", "-", "3"), "", set("z", "1", "app", "a", "z", "2", "-", "3")}, {`{app="a"} | logfmt`, set("z", "1", "app", "a", "z", "2", "-", "3"), "b=4 z=5", set("app", "a", "b", "4", "z", "2")}, {`{app="a"} | z="1"`, set("z", "1", "app", "a", "z", "2"), "", set("z", "1", "app", "a", "z", "2")}, {`{app="a"} | logfmt | z="1"`, set("z", "1", "app", "a", "z", "2"), "", nil},
	} {
		p := of(t, c.query)
		for range 2 {
			got, ok := p.Run(c.s, c.line)
			if ok != (c.want != nil) || !label.Same(got, c.want) {
				t.Errorf("%d: %s of %v %q: %v %t", i, c.query, c.s, c.line, got, ok)
			}
		}
	}
	if got, ok := of(t, `{app=""}`).Run(nil, ""); len(got) != 0 || !ok {
		t.Error(got, ok)
	}
}

// TestNewMemory (P3) writes into what was told, and into what was asked of.
func TestNewMemory(t *testing.T) {
	for _, text := range []string{`{app="a"}`, `{app="a"} |= ""`, `{app="a"} | logfmt`} {
		room := append(set("app", "a"), label.Pair{Name: "x", Value: "y"})
		got, _ := of(t, text).Run(room[:1], "b=1 c=2")
		got[0].Value = "z"
		if !label.Same(room, set("app", "a", "x", "y")) {
			t.Errorf("%s: %v", text, room)
		}
	}
	q := query(t, `{app="a"} | n == 5`)
	p, _ := pipe.Of(q)
	q.Matchers[0].Value, q.Stages[0].Num = "b", 6
	if _, ok := p.Run(set("app", "a", "n", "5"), ""); !ok {
		t.Error("kept")
	}
}

// TestStageMore (P12.4) has of no stage more an entry let through that was not.
func TestStageMore(t *testing.T) {
	stages := []string{` |= "b"`, ` != "c"`, ` | logfmt`, ` | b="1"`, ` | n > 3`, ` | d < 1m`, ` | b!=""`}
	lines := []string{"", "b=1", "b=1 n=4", "n=4 d=5s c=x", "b=1 n=9 d=59s", "c b n d"}
	for _, one := range stages {
		for _, two := range stages {
			for _, line := range lines {
				_, ahead := of(t, `{app="a"}`+one).Run(set("app", "a"), line)
				_, behind := of(t, `{app="a"}`+one+two).Run(set("app", "a"), line)
				if behind && !ahead {
					t.Errorf("%s%s of %q", one, two, line)
				}
			}
		}
	}
}
