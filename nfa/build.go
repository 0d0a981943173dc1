package nfa

import "archivist/rex"

// The kinds of states.
const (
	match = iota // the text is matched
	take         // over a byte of set, to next
	fork         // to next, and to other
	begin        // to next, at the text's beginning
	end          // to next, at its end
)

type state struct {
	kind        int
	set         rex.Set
	next, other int
}

// list is the states of a program; places in it stand for them.
type list struct {
	states []state
}

// add tells the place of the first of those that it adds.
func (l *list) add(states ...state) int {
	place := len(l.states)
	l.states = append(l.states, states...)
	return place
}

func (l *list) at(place int) *state {
	return &l.states[place]
}

func (l *list) many() int {
	return len(l.states)
}

// slim tells a node that matches the same, in which nothing stands that needs
// no state: what matches nothing but from a place to itself would else be
// gone through as often as all that stands around it is repeated.
func slim(n rex.Node) rex.Node {
	switch n.Kind {
	case rex.Cat:
		return slimCat(n)
	case rex.Alt:
		return slimAlt(n)
	case rex.Repeat:
		return slimRepeat(n)
	}
	return n
}

func slimCat(n rex.Node) rex.Node {
	var kids []rex.Node
	for _, kid := range n.Kids {
		if kid = slim(kid); kid.Kind != rex.Empty {
			kids = append(kids, kid)
		}
	}
	switch len(kids) {
	case 0:
		return rex.Node{}
	case 1:
		return kids[0]
	}
	return rex.Node{Kind: rex.Cat, Kids: kids}
}

func slimAlt(n rex.Node) rex.Node {
	kids := make([]rex.Node, 0, len(n.Kids))
	blank := true
	for _, kid := range n.Kids {
		kid = slim(kid)
		kids = append(kids, kid)
		blank = blank && kid.Kind == rex.Empty
	}
	if blank {
		return rex.Node{}
	}
	return rex.Node{Kind: rex.Alt, Kids: kids}
}

func slimRepeat(n rex.Node) rex.Node {
	if n.Max == 0 {
		return rex.Node{}
	}
	kid := slim(n.Kids[0])
	if kid.Kind == rex.Empty || n.Min == 1 && n.Max == 1 {
		return kid
	}
	return rex.Node{Kind: rex.Repeat, Min: n.Min, Max: n.Max, Kids: []rex.Node{kid}}
}

// build adds the states of n, behind which next comes, and tells the first.
func (l *list) build(n rex.Node, next int) int {
	switch n.Kind {
	case rex.One:
		return l.add(state{kind: take, set: n.Set, next: next})
	case rex.Begin:
		return l.add(state{kind: begin, next: next})
	case rex.End:
		return l.add(state{kind: end, next: next})
	case rex.Cat:
		for i := len(n.Kids) - 1; i >= 0; i-- {
			next = l.build(n.Kids[i], next)
		}
		return next
	case rex.Alt:
		return l.buildAlt(n.Kids, next)
	case rex.Repeat:
		return l.buildRepeat(n, next)
	}
	return next
}

func (l *list) buildAlt(kids []rex.Node, next int) int {
	last := len(kids) - 1
	first := l.build(kids[last], next)
	for i := last - 1; i >= 0; i-- {
		first = l.add(state{kind: fork, next: l.build(kids[i], next), other: first})
	}
	return first
}

// buildRepeat has each time as states of its own, but of a loop one time.
func (l *list) buildRepeat(n rex.Node, next int) int {
	kid, must := n.Kids[0], n.Min
	first := next
	if n.Max < 0 {
		loop := l.add(state{kind: fork, other: next})
		again := l.build(kid, loop)
		l.at(loop).next = again
		first = loop
		if must > 0 {
			first = again
			must--
		}
	}
	for range n.Max - n.Min {
		first = l.add(state{kind: fork, next: l.build(kid, first), other: next})
	}
	for range must {
		first = l.build(kid, first)
	}
	return first
}
