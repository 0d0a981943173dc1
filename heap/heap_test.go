package heap_test

import (
	"math/rand"
	"slices"
	"strings"
	"testing"

	"archivist/heap"
)

func less(a, b int) bool { return a < b }

// named is a thing with more than its order.
type named struct {
	rank int
	name string
}

func byRank(a, b named) bool { return a.rank < b.rank }

func peeks(t *testing.T, h *heap.Heap[int], want int, wantOK bool, n int) {
	t.Helper()
	for range 2 {
		if got, ok := h.Peek(); got != want || ok != wantOK || h.Len() != n {
			t.Errorf("%d %t of %d, not %d of %d", got, ok, h.Len(), want, n)
		}
	}
}

// TestHeap (P15.1, P15.2) pushes, peeks and pops.
func TestHeap(t *testing.T) {
	h := heap.New(less)
	peeks(t, h, 0, false, 0)
	if got, ok := h.Pop(); got != 0 || ok || h.Len() != 0 {
		t.Error(got, ok)
	}
	if l := h.Drain(); len(l) != 0 {
		t.Error(l)
	}
	h.Push(5)
	peeks(t, h, 5, true, 1)
	h.Push(7, 3, 9)
	peeks(t, h, 3, true, 4)
	h.Push()
	if got, ok := h.Pop(); got != 3 || !ok {
		t.Error(got, ok)
	}
	peeks(t, h, 5, true, 3)
	h.Push(-1, 6)
	if l := h.Drain(); !slices.Equal(l, []int{-1, 5, 6, 7, 9}) {
		t.Error(l)
	}
	peeks(t, h, 0, false, 0)
	h.Push(2, 1)
	peeks(t, h, 1, true, 2)
}

// TestNew (P15.1) has things at its beginning.
func TestNew(t *testing.T) {
	h := heap.New(func(a, b string) bool { return a > b }, "b", "a", "c")
	if got, ok := h.Peek(); got != "c" || !ok || h.Len() != 3 {
		t.Error(got, ok)
	}
	if l := h.Drain(); !slices.Equal(l, []string{"c", "b", "a"}) {
		t.Error(l)
	}
}

// TestAlike (P15.1, P15.2) has things that are alike in the order in which they came.
func TestAlike(t *testing.T) {
	h := heap.New(byRank, named{1, "a"}, named{0, "b"}, named{1, "c"}, named{0, "d"})
	h.Push(named{0, "e"}, named{1, "f"})
	names := ""
	for range 4 {
		ahead, _ := h.Peek()
		got, _ := h.Pop()
		if ahead != got {
			t.Error(ahead, got)
		}
		names += got.name
	}
	h.Push(named{1, "g"}, named{0, "h"})
	for _, got := range h.Drain() {
		names += got.name
	}
	if names != "bdeahcfg" {
		t.Error(names)
	}
	same := heap.New(func(a, b string) bool { return false }, strings.Split("the quick brown fox jumps over it", " ")...)
	if got := strings.Join(same.Drain(), " "); got != "the quick brown fox jumps over it" {
		t.Error(got)
	}
}

// TestDrained (P15.3) holds heaps against lists that are sorted, those alike as they stood.
func TestDrained(t *testing.T) {
	rnd := rand.New(rand.NewSource(15))
	for range 500 {
		var l []named
		h := heap.New(byRank)
		for i := range rnd.Intn(60) {
			if rnd.Intn(4) == 0 {
				slices.SortStableFunc(l, func(a, b named) int { return a.rank - b.rank })
				got, ok := h.Pop()
				if ok != (len(l) > 0) || ok && got != l[0] {
					t.Fatal(got, l)
				}
				if ok {
					l = l[1:]
				}
				continue
			}
			one := named{rnd.Intn(5), string(rune('!' + i))}
			l = append(l, one)
			h.Push(one)
		}
		slices.SortStableFunc(l, func(a, b named) int { return a.rank - b.rank })
		if h.Len() != len(l) || !slices.Equal(h.Drain(), l) || h.Len() != 0 {
			t.Fatal(l)
		}
	}
}

// TestMany (P1) has more than a slow way would bear.
func TestMany(t *testing.T) {
	h := heap.New(less)
	for i := range 200000 {
		h.Push(i * 7919 % 200000)
	}
	if l := h.Drain(); len(l) != 200000 || !slices.IsSorted(l) {
		t.Error(len(l))
	}
}

// TestNotKept (P3) writes into what was handed in, and into what was told.
func TestNotKept(t *testing.T) {
	l := []int{3, 1, 2}
	h := heap.New(less, l[:2]...)
	h.Push(l[2:]...)
	l[0], l[1], l[2] = 9, 9, 9
	got := h.Drain()
	if !slices.Equal(got, []int{1, 2, 3}) || !slices.Equal(l, []int{9, 9, 9}) {
		t.Error(got, l)
	}
	h.Push(5, 4)
	for i := range got {
		got[i] = 0
	}
	if got := h.Drain(); !slices.Equal(got, []int{4, 5}) {
		t.Error(got)
	}
}

// TestPanic (P1) has an order that tells of some things nothing.
func TestPanic(t *testing.T) {
	h := heap.New(func(a, b int) bool {
		if a == 2 || b == 2 {
			panic("two")
		}
		return a < b
	}, 2, 3, 2)
	h.Push(1, 2)
	if l := h.Drain(); len(l) != 5 || h.Len() != 0 {
		t.Error(l)
	}
}
