package gate

import (
	"archivist/api"
	"archivist/entry"
	"archivist/num"
	"archivist/quote"
	"archivist/scan"
)

// reader reads words, with a space between; bad is whether one is missing.
type reader struct {
	scan.Reader
	bad bool
}

// Serve answers the request that s is put as.
func (g *Gate) Serve(s string) string {
	r, e := Get(s)
	if e != api.OK {
		return Tell(Answer{Code: e})
	}
	return Tell(g.Handle(r))
}

// Put tells r as Get reads it.
func Put(r Request) string {
	return words(quote.Put(r.Tenant), quote.Put(r.Query), num.Text(r.From), num.Text(r.To), way(r.Asc),
		num.Text(int64(r.Limit)), num.Text(r.Width), num.Text(int64(r.Page)), quote.Put(r.Cursor))
}

// Get tells the request whose Put s is.
func Get(s string) (Request, api.Errno) {
	var q Request
	r := reader{Reader: scan.Of(s)}
	q.Tenant = r.text()
	q.Query = r.text()
	q.From = r.number()
	q.To = r.number()
	q.Asc = r.word(way(true), way(false)) == way(true)
	q.Limit = int(r.number())
	q.Width = r.number()
	q.Page = int(r.number())
	q.Cursor = r.text()
	if r.bad || !r.Done() {
		return Request{}, api.ErrForm
	}
	return q, api.OK
}

// Tell tells a as Read reads it.
func Tell(a Answer) string {
	l := []string{num.Text(int64(a.Code)), num.Text(int64(a.At))}
	for _, e := range a.L {
		l = append(l, entry.Put(e))
	}
	return words(append(l, quote.Put(a.Cursor))...)
}

// Read tells the answer whose Tell s is.
func Read(s string) (Answer, bool) {
	r := reader{Reader: scan.Of(s)}
	a := Answer{Code: api.Errno(r.number()), At: int(r.number())}
	a.L = r.entries()
	a.Cursor = r.text()
	if r.bad || !r.Done() {
		return Answer{}, false
	}
	return a, true
}

func words(l ...string) string {
	return quote.Join(" ", l...)
}

func way(asc bool) string {
	if asc {
		return "asc"
	}
	return "desc"
}

// gap reads the space that stands ahead of each word but the first.
func (r *reader) gap() {
	if r.At() > 0 {
		_, ok := r.Take(" ")
		r.found(ok)
	}
}

func (r *reader) found(ok bool) {
	r.bad = r.bad || !ok
}

func (r *reader) text() string {
	r.gap()
	s, ok := r.Quoted()
	r.found(ok)
	return s
}

func (r *reader) number() int64 {
	r.gap()
	n, ok := r.Number()
	r.found(ok)
	return n
}

func (r *reader) word(l ...string) string {
	r.gap()
	s, ok := r.Take(l...)
	r.found(ok)
	return s
}

// entries reads as many as there are, but not more than a page may have.
func (r *reader) entries() []entry.Entry {
	var l []entry.Entry
	for len(l) < MaxPage {
		ahead := *r
		r.gap()
		e, size, ok := entry.Parse(r.Rest())
		if !ok {
			*r = ahead
			break
		}
		r.Skip(size)
		l = append(l, e)
	}
	return l
}
