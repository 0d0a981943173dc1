package gate

import (
	"archivist/api"
	"archivist/cursor"
	"archivist/entry"
	"archivist/match"
	"archivist/pipe"
	"archivist/split"
	"archivist/store"
	"archivist/tenant"
)

// left is a quota, that entries are taken of.
type left struct {
	tenant.Quota
}

// want is what replicas are asked for, piece by piece.
type want struct {
	store.Ask
}

// reading is a page that is being read.
type reading struct {
	left
	want
	matchers *match.All
	pipe     *pipe.Pipe
	page     []entry.Entry
}

// take tells whether there is enough left for e.
func (q *left) take(e entry.Entry) bool {
	rest, ok := q.Take(e)
	q.Quota = rest
	return ok
}

func (w *want) within(s split.Span) {
	w.From, w.To = s.From, s.To
}

func (w *want) behind(e entry.Entry) {
	w.Has, w.After = true, e
}

// page reads the page that a asks for.
func (g *Gate) page(a asked) Answer {
	r, e := newReading(a)
	if e == api.OK {
		e = g.read(r, a.pieces())
	}
	if e != api.OK {
		return Answer{Code: e}
	}
	return Answer{L: r.page, Cursor: r.next(a.digest)}
}

func newReading(a asked) (*reading, api.Errno) {
	matchers, e := match.Every(a.query.Matchers...)
	if e != api.OK {
		return nil, e
	}
	p, e := pipe.Of(a.query)
	if e != api.OK {
		return nil, e
	}
	r := &reading{left: left{a.quota}, matchers: matchers, pipe: p}
	r.Ask = store.Ask{Asc: a.Asc, Limit: a.Page, Has: a.has, After: a.last}
	return r, api.OK
}

// read fills the page from pieces, till it is full, or nothing is left.
func (g *Gate) read(r *reading, pieces []split.Span) api.Errno {
all:
	for _, piece := range pieces {
		r.within(piece)
		for more := true; more; {
			l, next, e := g.fan.Fetch(r.Ask, r.matchers)
			if e != api.OK {
				return e
			}
			for _, one := range l {
				r.behind(one)
				if r.lets(one) && !r.add(one) {
					break all
				}
			}
			more = next
		}
	}
	return api.OK
}

// lets tells whether the query lets e through.
func (r *reading) lets(e entry.Entry) bool {
	_, ok := r.pipe.Run(e.Labels, e.Line)
	return ok
}

// add puts e in the page, if it is taken; false, if nothing comes behind it.
func (r *reading) add(e entry.Entry) bool {
	if !r.take(e) {
		return false
	}
	r.page = append(r.page, e)
	return !r.full()
}

func (r *reading) full() bool {
	return len(r.page) == r.Limit
}

// next tells the cursor of the page, if there may be another one.
func (r *reading) next(digest uint64) string {
	if !r.full() || r.Lines < 1 {
		return ""
	}
	s, _ := cursor.Put(cursor.Cursor{Digest: digest, Lines: r.Lines, Bytes: r.Bytes, Last: r.page[len(r.page)-1]})
	return s
}
