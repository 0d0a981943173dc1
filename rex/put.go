package rex

import (
	"strings"

	"archivist/num"
)

// writer gathers what is told, so that deep nodes are told in one going.
type writer struct {
	strings.Builder
}

// Put tells n as Parse reads it.
func Put(n Node) string {
	var w writer
	w.node(n)
	return w.String()
}

func (w *writer) node(n Node) {
	switch n.Kind {
	case One:
		w.set(n.Set)
	case Begin:
		w.WriteByte('^')
	case End:
		w.WriteByte('$')
	case Cat:
		for _, kid := range n.Kids {
			w.within(kid, kid.Kind == Alt)
		}
	case Alt:
		for i, kid := range n.Kids {
			if i > 0 {
				w.WriteByte('|')
			}
			w.node(kid)
		}
	case Repeat:
		w.repeat(n)
	}
}

// within tells n, in brackets, if it needs them.
func (w *writer) within(n Node, brackets bool) {
	if brackets {
		w.WriteByte('(')
	}
	w.node(n)
	if brackets {
		w.WriteByte(')')
	}
}

func (w *writer) repeat(n Node) {
	kid := Node{}
	if len(n.Kids) > 0 {
		kid = n.Kids[0]
	}
	w.within(kid, kid.Kind == Empty || kid.Kind >= Cat)
	w.WriteString(times(n.Min, n.Max))
}

// times tells how often something is repeated, in the shortest form.
func times(low, high int) string {
	switch {
	case low == 0 && high == -1:
		return "*"
	case low == 1 && high == -1:
		return "+"
	case low == 0 && high == 1:
		return "?"
	case low == high:
		return "{" + number(low) + "}"
	case high == -1:
		return "{" + number(low) + ",}"
	}
	return "{" + number(low) + "," + number(high) + "}"
}

func number(n int) string {
	return num.Text(int64(n))
}

func (w *writer) set(s Set) {
	switch {
	case s == anyByte():
		w.WriteByte('.')
	case s.Many() == 1:
		w.byteOf(s.spans()[0].low, special)
	default:
		w.class(s)
	}
}

func (w *writer) class(s Set) {
	w.WriteByte('[')
	for _, one := range s.spans() {
		w.byteOf(one.low, classSpecial)
		if one.high > one.low {
			w.WriteByte('-')
			w.byteOf(one.high, classSpecial)
		}
	}
	w.WriteByte(']')
}

// byteOf tells b, behind a `\`, if it stands among those that need one.
func (w *writer) byteOf(b byte, among string) {
	if strings.IndexByte(among, b) >= 0 {
		w.WriteByte('\\')
	}
	w.WriteByte(b)
}
