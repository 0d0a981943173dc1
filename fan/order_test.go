package fan

import (
	"math"
	"slices"
	"testing"

	"archivist/store"
)

// TestOrder (P20.1) looks at the order itself: what is told never hangs on it.
func TestOrder(t *testing.T) {
	for i, c := range []struct {
		l    []int
		want []int
	}{
		{nil, []int{1, 2, 3}}, {[]int{3, 1}, []int{3, 1, 2}}, {[]int{2}, []int{2, 1, 3}}, {[]int{3, 3, 2, 3}, []int{3, 2, 1}},
		{[]int{0, -1, 4, 2, math.MaxInt, math.MinInt}, []int{2, 1, 3}}, {[]int{1, 2, 3}, []int{1, 2, 3}}, {[]int{5}, []int{1, 2, 3}},
	} {
		f, _ := New(store.New(nil), store.New(nil), store.New(nil))
		f.Order(3, 2, 1)
		f.Order(c.l...)
		var got []int
		for _, place := range f.order {
			got = append(got, place+1)
		}
		if !slices.Equal(got, c.want) {
			t.Errorf("%d: %v", i, got)
		}
	}
	f, _ := New(store.New(nil), store.New(nil))
	if !slices.Equal(f.order, []int{0, 1}) {
		t.Error(f.order)
	}
}
