package split_test

import (
	"math"
	"math/big"
	"math/rand"
	"slices"
	"testing"

	"archivist/api"
	"archivist/split"
)

const (
	top    = int64(math.MaxInt64)
	bottom = int64(math.MinInt64)
)

// TestMany (P17.1) has ranges that are split, and ones that are none.
func TestMany(t *testing.T) {
	for i, c := range []struct {
		from, to, width int64
		want            int
		e               api.Errno
	}{
		{0, 10, 4, 3, api.OK}, {0, 8, 4, 2, api.OK}, {0, 9, 4, 3, api.OK}, {0, 1, 1, 1, api.OK}, {0, 1, top, 1, api.OK}, {-5, 5, 5, 2, api.OK}, {0, 64, 1, 64, api.OK}, {0, 65, 1, 0, api.ErrRange}, {0, 128, 2, 64, api.OK}, {0, 129, 2, 0, api.ErrRange},
		{0, 0, 1, 0, api.ErrRange}, {1, 0, 1, 0, api.ErrRange}, {0, 10, 0, 0, api.ErrRange}, {0, 10, -4, 0, api.ErrRange}, {0, 10, bottom, 0, api.ErrRange}, {top, bottom, 1, 0, api.ErrRange}, {5, 5, 0, 0, api.ErrRange},
		{bottom, top, top, 3, api.OK}, {bottom, 0, top, 2, api.OK}, {bottom, -1, top, 1, api.OK}, {bottom, top, 1 << 58, 64, api.OK}, {bottom, top, 1<<58 - 1, 0, api.ErrRange}, {bottom, top, 1, 0, api.ErrRange}, {top - 1, top, 1, 1, api.OK}, {bottom, bottom + 1, 1, 1, api.OK},
	} {
		if got, e := split.Many(c.from, c.to, c.width); got != c.want || e != c.e {
			t.Errorf("%d: %d %d", i, got, e)
		}
		for _, asc := range []bool{true, false} {
			if l, e := split.All(c.from, c.to, c.width, asc); len(l) != c.want || e != c.e {
				t.Errorf("%d: %v %d", i, l, e)
			}
		}
	}
}

// TestAll (P17.1) has pieces, both ways.
func TestAll(t *testing.T) {
	for i, c := range []struct {
		from, to, width int64
		want            []split.Span
	}{
		{0, 10, 4, []split.Span{{0, 4}, {4, 8}, {8, 10}}}, {0, 8, 4, []split.Span{{0, 4}, {4, 8}}}, {-3, 2, 9, []split.Span{{-3, 2}}},
		{bottom, top, top, []split.Span{{bottom, -1}, {-1, top - 1}, {top - 1, top}}}, {top - 3, top, 2, []split.Span{{top - 3, top - 1}, {top - 1, top}}},
	} {
		l, e := split.All(c.from, c.to, c.width, true)
		if !slices.Equal(l, c.want) || e != api.OK {
			t.Errorf("%d: %v %d", i, l, e)
		}
		slices.Reverse(c.want)
		if l, e := split.All(c.from, c.to, c.width, false); !slices.Equal(l, c.want) || e != api.OK {
			t.Errorf("%d: %v %d falling", i, l, e)
		}
	}
}

// TestTogether (P17.3) holds pieces against the range, in whole numbers.
func TestTogether(t *testing.T) {
	rnd := rand.New(rand.NewSource(17))
	some := func() int64 { return int64(rnd.Uint64()) >> rnd.Intn(64) }
	whole := func(n int64) *big.Int { return big.NewInt(n) }
	for range 20000 {
		from, to, width := some(), some(), some()
		if rnd.Intn(2) == 0 {
			width = to/40 - from/40
		}
		l, e := split.All(from, to, width, true)
		many := new(big.Int)
		if from < to && width >= 1 {
			many.Sub(whole(to), whole(from)).Add(many, whole(width-1)).Div(many, whole(width))
		}
		if many.Sign() == 0 || many.Cmp(whole(api.MaxPieces)) > 0 {
			if len(l) != 0 || e != api.ErrRange {
				t.Fatal(from, to, width, e)
			}
			continue
		}
		if many.Cmp(whole(int64(len(l)))) != 0 || e != api.OK || l[0].From != from || l[len(l)-1].To != to {
			t.Fatal(from, to, width, l)
		}
		for i, s := range l {
			if s.From >= s.To || i > 0 && s.From != l[i-1].To {
				t.Fatal(from, to, width, l)
			}
			if size := new(big.Int).Sub(whole(s.To), whole(s.From)); size.Cmp(whole(width)) > 0 || i < len(l)-1 && size.Cmp(whole(width)) != 0 {
				t.Fatal(from, to, width, l)
			}
		}
	}
}

// TestBehind (P17.2) has times at, and beside, the ends of pieces.
func TestBehind(t *testing.T) {
	l := []split.Span{{0, 4}, {4, 8}, {8, 10}}
	falling := []split.Span{{8, 10}, {4, 8}, {0, 4}}
	for i, c := range []struct {
		asc  bool
		ts   int64
		l    []split.Span
		want []split.Span
	}{
		{true, -1, l, l}, {true, 3, l, l}, {true, 4, l, l[1:]}, {true, 9, l, l[2:]}, {true, 10, l, nil}, {true, top, l, nil}, {true, bottom, l, l},
		{false, 10, falling, falling}, {false, 8, falling, falling}, {false, 7, falling, falling[1:]}, {false, 0, falling, falling[2:]}, {false, -1, falling, nil}, {false, top, falling, falling}, {false, 4, l, l[:2]}, {true, 5, falling, falling[:2]},
		{true, 0, nil, nil},
	} {
		got := split.Behind(c.asc, c.ts, c.l...)
		if !slices.Equal(got, c.want) {
			t.Errorf("%d: %v", i, got)
		}
		if len(got) > 0 {
			got[0] = split.Span{}
		}
	}
	if !slices.Equal(l, []split.Span{{0, 4}, {4, 8}, {8, 10}}) {
		t.Error("written into")
	}
}
