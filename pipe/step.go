package pipe

import (
	"archivist/api"
	"archivist/ast"
	"archivist/label"
	"archivist/logfmt"
	"archivist/match"
)

// step is a stage: the labels behind it, and whether it lets an entry through.
type step func(s label.Set, line string) (label.Set, bool)

type lineStep struct {
	*match.Line
}

type fieldStep struct{}

type labelStep struct {
	*match.One
}

// compareStep holds the value of the label of a name against a number.
type compareStep struct {
	measure
	name string
}

// measure is what a value's Measure is held against.
type measure struct {
	op   string
	num  int64
	unit int
}

// stepOf tells the step of a right stage.
func stepOf(s ast.Stage) (step, api.Errno) {
	switch s.Kind {
	case ast.Line:
		l, e := match.LineOf(s)
		return lineStep{l}.run, e
	case ast.Label:
		o, e := match.Of(ast.Matcher{Name: s.Name, Op: s.Op, Value: s.Value})
		return labelStep{o}.run, e
	case ast.Compare:
		return compareStep{measure{s.Op, s.Num, s.Unit}, s.Name}.run, api.OK
	}
	return fieldStep{}.run, api.OK
}

func (t lineStep) run(s label.Set, line string) (label.Set, bool) {
	return s, t.Test(line)
}

// run adds the line's fields of names that no label has yet.
func (fieldStep) run(s label.Set, line string) (label.Set, bool) {
	var more []label.Pair
	for _, p := range logfmt.Of(line) {
		if _, there := s.Get(p.Name); !there {
			more = append(more, p)
		}
	}
	return s.With(more...), true
}

func (t labelStep) run(s label.Set, line string) (label.Set, bool) {
	value, _ := s.Get(t.Name())
	return s, t.Test(value)
}

func (t compareStep) run(s label.Set, line string) (label.Set, bool) {
	value, there := s.Get(t.name)
	return s, there && t.test(value)
}

func (m measure) test(value string) bool {
	n, ok := Measure(value, m.unit)
	if !ok {
		return false
	}
	switch m.op {
	case "==":
		return n == m.num
	case "!=":
		return n != m.num
	case ">":
		return n > m.num
	case ">=":
		return n >= m.num
	case "<":
		return n < m.num
	case "<=":
		return n <= m.num
	}
	return false
}
