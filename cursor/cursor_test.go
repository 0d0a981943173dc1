package cursor_test

import (
	"hash/fnv"
	"math"
	"math/rand"
	"strconv"
	"strings"
	"testing"

	"archivist/api"
	"archivist/cursor"
	"archivist/entry"
	"archivist/label"
)

func of(ts int64, app, line string) entry.Entry {
	return entry.Entry{TS: ts, Labels: label.Set{{Name: "app", Value: app}}, Line: line}
}

func same(a, b cursor.Cursor) bool {
	return a.Digest == b.Digest && a.Lines == b.Lines && a.Bytes == b.Bytes && entry.Same(a.Last, b.Last)
}

// TestSum (P19.1) holds sums against those of the library.
func TestSum(t *testing.T) {
	for _, s := range []string{"", "a", "foobar", "\x00", "\xff\x80", strings.Repeat("archivist", 1000)} {
		h := fnv.New64a()
		h.Write([]byte(s))
		if got := cursor.Sum(s); got != h.Sum64() {
			t.Errorf("%q: %x", s, got)
		}
	}
	if cursor.Sum("") != 14695981039346656037 || cursor.Sum("a") != 0xaf63dc4c8601ec8c {
		t.Error("known ones")
	}
}

// TestDigest (P19.1) has parts that would be others, were they not in quotes.
func TestDigest(t *testing.T) {
	for want, parts := range map[string][]string{"": nil, `""`: {""}, `"a"`: {"a"}, `"a","b"`: {"a", "b"}, `"a\",\"b"`: {`a","b`}, `"","\n",""`: {"", "\n", ""}} {
		if got := cursor.Digest(parts...); got != cursor.Sum(want) {
			t.Errorf("%s: %x", want, got)
		}
	}
}

// TestHex (P19.1) has digits at all places.
func TestHex(t *testing.T) {
	for n, want := range map[uint64]string{0: "0000000000000000", 1: "0000000000000001", 0xabcdef: "0000000000abcdef", 0x123456789abcdef0: "123456789abcdef0", math.MaxUint64: "ffffffffffffffff", 1 << 63: "8000000000000000"} {
		if got := cursor.Hex(n); got != want {
			t.Error(n, got)
		}
	}
}

// TestPut (P19.2) has cursors right, and wrong by one thing.
func TestPut(t *testing.T) {
	c := cursor.Cursor{Digest: 0xab, Lines: 3, Bytes: 40, Last: of(-7, "a:b", "x\n")}
	body := `c1:00000000000000ab:3:40:-7{app="a:b"}"x\n":`
	if got, ok := cursor.Put(c); got != body+cursor.Hex(cursor.Sum(body)) || !ok || !cursor.Right(c) {
		t.Error(got, ok)
	}
	for i, turn := range []func(c *cursor.Cursor){
		func(c *cursor.Cursor) { c.Lines = -1 }, func(c *cursor.Cursor) { c.Bytes = -1 }, func(c *cursor.Cursor) { c.Lines = math.MinInt }, func(c *cursor.Cursor) { c.Last.Line = strings.Repeat("x", 257) }, func(c *cursor.Cursor) { c.Last.Labels = append(c.Last.Labels, c.Last.Labels...) },
	} {
		wrong := c
		turn(&wrong)
		if got, ok := cursor.Put(wrong); got != "" || ok || cursor.Right(wrong) {
			t.Error(i, got, ok)
		}
	}
}

// summed is what a cursor of that body would be.
func summed(body string) string {
	return body + cursor.Hex(cursor.Sum(body))
}

// TestNoCursor (P19.2) has texts whose sum is right, though they are no Put.
func TestNoCursor(t *testing.T) {
	if _, e := cursor.Get(summed(`c1:00000000000000ab:3:40:0{}"":`)); e != api.OK {
		t.Error(e)
	}
	for _, s := range []string{
		"", "c1:", "x", summed(""), summed("c1:"), summed("c1:00000000000000ab:3:40:"), summed(`c1:00000000000000ab:3:40:0{}""`), summed(`c1:00000000000000ab:3:40:0{}"" :`), summed(`c1:00000000000000ab:3:40:0{}"":`) + "0", summed(`c1:00000000000000ab:3:40:0{}"":`)[1:], summed(`c1:00000000000000ab:3:40:0{}"":`) + "\n",
		summed(`c2:00000000000000ab:3:40:0{}"":`), summed(`C1:00000000000000ab:3:40:0{}"":`), summed(`c1:00000000000000AB:3:40:0{}"":`), summed(`c1:0000000000000ab:3:40:0{}"":`), summed(`c1:000000000000000ab:3:40:0{}"":`), summed(`c1:0x000000000000ab:3:40:0{}"":`),
		summed(`c1:00000000000000ab:-3:40:0{}"":`), summed(`c1:00000000000000ab:03:40:0{}"":`), summed(`c1:00000000000000ab::40:0{}"":`), summed(`c1:00000000000000ab:3:-1:0{}"":`), summed(`c1:00000000000000ab:3:+4:0{}"":`), summed(`c1:00000000000000ab:9223372036854775808:4:0{}"":`), summed(`c1:00000000000000ab:3:9223372036854775808:0{}"":`), summed(`c1:00000000000000ab:3;40:0{}"":`), summed(`c1:00000000000000ab;3:40:0{}"":`), summed(`c1:00000000000000ab:3:40;0{}"":`), summed(`c1:00000000000000ab:3:40:00{}"":`),
		summed(`c1:00000000000000ab:3:40:0{b="",a=""}"":`), summed(`c1:00000000000000ab:3:40:0{}"` + strings.Repeat("x", 257) + `":`), summed(`c1:00000000000000ab:3:40:0{}"\x41":`), summed(`c1:00000000000000ab:3:40:0{}"":1:`), " " + summed(`c1:00000000000000ab:3:40:0{}"":`), summed(` c1:00000000000000ab:3:40:0{}"":`), strings.ToUpper(summed(`c1:00000000000000ab:3:40:0{}"":`)),
		`c1:00000000000000ab:3:40:0{}"":` + "0000000000000000", `c1:00000000000000ab:3:40:0{}"":`,
	} {
		if c, e := cursor.Get(s); !same(c, cursor.Cursor{}) || e != api.ErrCursor {
			t.Errorf("%q: %v %d", s, c, e)
		}
	}
}

// TestThereAndBack (P19.3) gets cursors, and none with one byte another one.
func TestThereAndBack(t *testing.T) {
	rnd := rand.New(rand.NewSource(19))
	lines := []string{"", "x", ":", "\"", "\n\xff", "c1:" + strconv.Itoa(5)}
	for i := range 60 {
		c := cursor.Cursor{Digest: rnd.Uint64() >> rnd.Intn(64), Lines: int(rnd.Uint64()>>1) >> rnd.Intn(64), Bytes: int64(rnd.Uint64()>>1) >> rnd.Intn(64), Last: of(int64(rnd.Uint64())>>rnd.Intn(64), lines[rnd.Intn(len(lines))], lines[rnd.Intn(len(lines))])}
		if i == 0 {
			c = cursor.Cursor{}
		}
		s, ok := cursor.Put(c)
		if got, e := cursor.Get(s); !same(got, c) || e != api.OK || !ok {
			t.Fatalf("%s: %v %d", s, got, e)
		}
		for at := range s {
			for _, b := range []byte("0129af:{}\"\\c-\x00\xffA") {
				other := s[:at] + string([]byte{b}) + s[at+1:]
				if got, e := cursor.Get(other); other != s && (!same(got, cursor.Cursor{}) || e != api.ErrCursor) {
					t.Fatalf("%s: %v", other, got)
				}
			}
			if _, e := cursor.Get(s[:at]); e != api.ErrCursor {
				t.Fatalf("%s is cut at %d", s, at)
			}
		}
	}
}
