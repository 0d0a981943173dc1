package heap

import "testing"

// TestLetGo has a heap that holds on to nothing that was taken out of it.
func TestLetGo(t *testing.T) {
	h := New(func(a, b *int) bool { return *a < *b }, new(1), new(2), new(3))
	h.Pop()
	h.Pop()
	for i, one := range h.items[:3] {
		if (one.thing == nil) != (i > 0) {
			t.Error(i)
		}
	}
}
