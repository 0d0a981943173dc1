package parse

import (
	"archivist/lex"
	"archivist/quote"
)

// words are gone by from the first on.
type words struct {
	l    []lex.Token
	at   int
	size int // how many bytes the query has
}

func (w *words) done() bool {
	return w.at == len(w.l)
}

// next tells the next word; behind the last one that is of no kind, and
// stands at the end.
func (w *words) next() lex.Token {
	if w.done() {
		return lex.Token{At: w.size}
	}
	return w.l[w.at]
}

// kind goes by the next word, if it is of that kind.
func (w *words) kind(kind int) (string, bool) {
	word := w.next()
	if word.Kind != kind {
		return "", false
	}
	w.at++
	return word.Text, true
}

// op goes by the next word, if it is one of ops.
func (w *words) op(ops ...string) (string, bool) {
	word := w.next()
	if word.Kind != lex.Op || quote.Among(word.Text, ops...) < 0 {
		return "", false
	}
	return w.kind(lex.Op)
}
