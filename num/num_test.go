package num_test

import (
	"math"
	"math/big"
	"math/rand"
	"testing"

	"archivist/num"
)

const (
	top    = int64(math.MaxInt64)
	bottom = int64(math.MinInt64)
)

// edges are the numbers at which sums and products begin to wrap.
func edges() []int64 {
	return []int64{0, 1, -1, 2, -2, 3, -3, 1 << 31, -1 << 31, 1 << 32, -1 << 32, 3037000499, 3037000500, -3037000500,
		1 << 62, -1 << 62, top / 2, top/2 + 1, bottom / 2, bottom/2 - 1, top / 3, bottom / 3, top - 1, top, bottom + 1, bottom}
}

// told is what a list comes to in numbers that have no end.
func told(l []int64, start int64, step func(a, b *big.Int)) (int64, bool) {
	all := big.NewInt(start)
	for _, n := range l {
		step(all, big.NewInt(n))
		if !all.IsInt64() {
			return 0, false
		}
	}
	return all.Int64(), true
}

func check(t *testing.T, name string, l []int64, got int64, ok bool, want int64, wantOK bool) {
	t.Helper()
	if got != want || ok != wantOK {
		t.Errorf("%s of %v: %d %t, not %d %t", name, l, got, ok, want, wantOK)
	}
}

func checkAll(t *testing.T, l []int64) {
	t.Helper()
	got, ok := num.Add(l...)
	want, wantOK := told(l, 0, func(a, b *big.Int) { a.Add(a, b) })
	check(t, "Add", l, got, ok, want, wantOK)
	got, ok = num.Mul(l...)
	want, wantOK = told(l, 1, func(a, b *big.Int) { a.Mul(a, b) })
	check(t, "Mul", l, got, ok, want, wantOK)
	if len(l) == 2 {
		got, ok = num.Sub(l[0], l[1])
		want, wantOK = told(l[1:], l[0], func(a, b *big.Int) { a.Sub(a, b) })
		check(t, "Sub", l, got, ok, want, wantOK)
	}
}

// TestSums (P2.1, P2.3) holds sums and products against whole numbers.
func TestSums(t *testing.T) {
	checkAll(t, nil)
	for _, a := range edges() {
		checkAll(t, []int64{a})
		for _, b := range edges() {
			checkAll(t, []int64{a, b})
			for _, c := range edges() {
				checkAll(t, []int64{a, b, c})
			}
		}
	}
	rnd := rand.New(rand.NewSource(2))
	for range 5000 {
		l := make([]int64, rnd.Intn(6))
		for i := range l {
			l[i] = int64(rnd.Uint64()) >> rnd.Intn(64)
		}
		checkAll(t, l)
	}
}

// TestFirstOnes (P2.1) has sums that would be numbers again, had they not wrapped ahead.
func TestFirstOnes(t *testing.T) {
	for i, l := range [][]int64{{top, 1, -1}, {bottom, -1, 1}, {1, top, -5}} {
		if n, ok := num.Add(l...); n != 0 || ok {
			t.Error(i, n, ok)
		}
	}
	for i, l := range [][]int64{{top, 2, 0}, {bottom, -1, 0}, {1 << 32, 1 << 31, -1}} {
		if n, ok := num.Mul(l...); n != 0 || ok {
			t.Error(i, n, ok)
		}
	}
	if n, ok := num.Add(top, -1, 1); n != top || !ok {
		t.Error(n, ok)
	}
	if n, ok := num.Mul(0, top, top); n != 0 || !ok {
		t.Error(n, ok)
	}
	if n, ok := num.Mul(-1<<32, 1<<31); n != bottom || !ok {
		t.Error(n, ok)
	}
}

// TestLeast (P2.1) has the least at each place.
func TestLeast(t *testing.T) {
	for i, c := range []struct {
		first int64
		rest  []int64
		want  int64
	}{{5, nil, 5}, {5, []int64{7, 6}, 5}, {5, []int64{7, -1, 3}, -1}, {top, []int64{bottom, 0}, bottom}, {1, []int64{1}, 1}, {4, []int64{5, 6, 3}, 3}} {
		if got := num.Least(c.first, c.rest...); got != c.want {
			t.Errorf("%d: %d", i, got)
		}
	}
}

// TestText (P2.2) has the digits of numbers, read again.
func TestText(t *testing.T) {
	for n, want := range map[int64]string{0: "0", 7: "7", -7: "-7", 10: "10", -120: "-120", top: "9223372036854775807", bottom: "-9223372036854775808"} {
		if got := num.Text(n); got != want {
			t.Errorf("%d: %s", n, got)
		}
	}
	for _, n := range edges() {
		if got, ok := num.Parse(num.Text(n)); got != n || !ok || num.Text(n) != big.NewInt(n).String() {
			t.Errorf("%d: %d %t", n, got, ok)
		}
	}
}

// TestNoText (P2.2) has what is no number's Text.
func TestNoText(t *testing.T) {
	for _, s := range []string{"", "-", "+1", "01", "-01", "00", "-0", " 1", "1 ", "1.0", "1e3", "0x1", "1_000", "--1", "a", "1a",
		"9223372036854775808", "-9223372036854775809", "99999999999999999999", "18446744073709551617", "\x00", "١"} {
		if n, ok := num.Parse(s); n != 0 || ok {
			t.Errorf("%q: %d %t", s, n, ok)
		}
	}
}
