package rex

import (
	"strings"

	"archivist/api"
	"archivist/scan"
)

const (
	special      = `\.[]()*+?{}|^$` // what stands for itself only behind a `\`
	classSpecial = `\]-^`           // likewise, in a class
)

// parser reads an expression from the left; the first fault ends it.
type parser struct {
	scan.Reader
	open   int // how many `(` are
	faulty bool
	fault  int
}

func newParser(s string) *parser {
	return &parser{Reader: scan.Of(s)}
}

// whole reads all: the expression, or where it is none.
func (p *parser) whole() (n Node, at int, ok bool) {
	n = p.expression()
	if p.faulty {
		return Node{}, p.fault, false
	}
	return n, p.At(), true
}

func (p *parser) fail(at int) Node {
	if !p.faulty {
		p.faulty, p.fault = true, at
	}
	return Node{}
}

func (p *parser) expression() Node {
	l := []Node{p.sequence()}
	for !p.faulty {
		if _, ok := p.Take("|"); !ok {
			break
		}
		l = append(l, p.sequence())
	}
	if len(l) == 1 {
		return l[0]
	}
	return altOf(l...)
}

func (p *parser) sequence() Node {
	var l []Node
	for !p.faulty {
		b, ok := p.Peek()
		if !ok || b == '|' || b == ')' && p.open > 0 {
			break
		}
		l = append(l, p.piece())
	}
	return catOf(l...)
}

func (p *parser) piece() Node {
	n := p.atom()
	at := p.At()
	b, ok := p.Peek()
	if !ok || p.faulty {
		return n
	}
	switch b {
	case '*', '+', '?', '{':
		p.Next()
	}
	switch b {
	case '*':
		return repeatOf(n, 0, -1)
	case '+':
		return repeatOf(n, 1, -1)
	case '?':
		return repeatOf(n, 0, 1)
	case '{':
		low, high, ok := p.bounds()
		if !ok {
			return p.fail(at)
		}
		return repeatOf(n, low, high)
	}
	return n
}

// bounds reads what stands behind a `{`, and the `}`.
func (p *parser) bounds() (low, high int, ok bool) {
	low, ok = p.count()
	if !ok {
		return 0, 0, false
	}
	if _, ok := p.Take("}"); ok {
		return low, low, true
	}
	if _, ok := p.Take(",}"); ok {
		return low, -1, true
	}
	if _, ok := p.Take(","); !ok {
		return 0, 0, false
	}
	high, ok = p.count()
	if _, closed := p.Take("}"); !ok || !closed || high < low {
		return 0, 0, false
	}
	return low, high, true
}

// count reads how often something may be repeated.
func (p *parser) count() (int, bool) {
	n, ok := p.Number()
	if !ok || n < 0 || n > api.MaxRepeat {
		return 0, false
	}
	return int(n), true
}

// atom reads one; there is a byte.
func (p *parser) atom() Node {
	at := p.At()
	b, _ := p.Next()
	switch b {
	case '(':
		return p.group()
	case '.':
		return oneOf(anyByte())
	case '^':
		return Node{Kind: Begin}
	case '$':
		return Node{Kind: End}
	case '\\':
		return p.found(at, p.escape)
	case '[':
		return p.found(at, p.class)
	}
	if strings.IndexByte(special, b) >= 0 {
		return p.fail(at)
	}
	return oneOf(single(b))
}

// found tells One of the bytes that read finds; at is where it is at fault.
func (p *parser) found(at int, read func() (Set, bool)) Node {
	s, ok := read()
	if !ok {
		return p.fail(at)
	}
	return oneOf(s)
}

// group reads what stands behind a `(`, and the `)`.
func (p *parser) group() Node {
	p.open++
	n := p.expression()
	p.open--
	if _, ok := p.Take(")"); !ok && !p.faulty {
		return p.fail(p.At())
	}
	return n
}

// escape reads what stands behind a `\`.
func (p *parser) escape() (Set, bool) {
	b, ok := p.Next()
	if !ok {
		return Set{}, false
	}
	switch b {
	case 'n':
		return single('\n'), true
	case 't':
		return single('\t'), true
	case 'd':
		return setOf(span{'0', '9'}), true
	case 'w':
		return setOf(span{'0', '9'}, span{'A', 'Z'}, span{'a', 'z'}, span{'_', '_'}), true
	case 's':
		return setOf(span{'\t', '\n'}, span{'\r', '\r'}, span{' ', ' '}), true
	}
	if b != '-' && strings.IndexByte(special, b) < 0 {
		return Set{}, false
	}
	return single(b), true
}

// class reads what stands behind a `[`, and the `]`.
func (p *parser) class() (Set, bool) {
	_, not := p.Take("^")
	all, ok := p.item()
	for ok {
		if _, closed := p.Take("]"); closed {
			break
		}
		var more Set
		more, ok = p.item()
		all = all.union(more)
	}
	if not {
		all = all.others()
	}
	return all, ok && all != Set{}
}

// item reads a member of a class, or two that are a range's ends.
func (p *parser) item() (Set, bool) {
	first, ok := p.member()
	if !ok {
		return Set{}, false
	}
	if _, ranged := p.Take("-"); !ranged {
		return first, true
	}
	last, ok := p.member()
	if !ok || first.Many() != 1 || last.Many() != 1 {
		return Set{}, false
	}
	low, high := first.spans()[0].low, last.spans()[0].low
	return setOf(span{low, high}), low <= high
}

func (p *parser) member() (Set, bool) {
	b, ok := p.Next()
	if !ok {
		return Set{}, false
	}
	if b == '\\' {
		return p.escape()
	}
	return single(b), strings.IndexByte(classSpecial, b) < 0
}

func oneOf(s Set) Node {
	return Node{Kind: One, Set: s}
}

func repeatOf(n Node, low, high int) Node {
	return Node{Kind: Repeat, Min: low, Max: high, Kids: []Node{n}}
}

// catOf tells the normal form of l, one behind the other.
func catOf(l ...Node) Node {
	var kids []Node
	for _, n := range l {
		switch n.Kind {
		case Empty:
		case Cat:
			kids = append(kids, n.Kids...)
		default:
			kids = append(kids, n)
		}
	}
	switch len(kids) {
	case 0:
		return Node{}
	case 1:
		return kids[0]
	}
	return Node{Kind: Cat, Kids: kids}
}

// altOf tells the normal form of one of l.
func altOf(l ...Node) Node {
	var kids []Node
	for _, n := range l {
		if n.Kind == Alt {
			kids = append(kids, n.Kids...)
		} else {
			kids = append(kids, n)
		}
	}
	return Node{Kind: Alt, Kids: kids}
}
