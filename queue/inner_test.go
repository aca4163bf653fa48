package queue

import "testing"

// Nobody can push so often: the count is set ahead of the end by hand.
func TestDropsStay(t *testing.T) {
	q, _ := New[int](1)
	q.Push(1)
	q.drops = 1<<62 - 2
	for i, want := range []int{1<<62 - 1, 1 << 62, 1 << 62, 1 << 62} {
		if q.Push(2) || q.Drops() != want || q.Copy().Drops() != want {
			t.Errorf("%d: Drops %d, not %d", i, q.Drops(), want)
		}
	}
	if x, ok := q.Pop(); x != 1 || !ok || !q.Push(3) || q.Drops() != 1<<62 {
		t.Error("the queue at the end of its count:", x, ok, q.Drops())
	}
}

// What has gone out, and what was dropped, is not kept.
func TestNothingKept(t *testing.T) {
	q, _ := New[string](5)
	for turn := range 20 {
		for range turn%7 + 1 {
			q.Push("x")
		}
		for range turn%5 + 2 {
			q.Pop()
		}
		kept := 0
		for _, x := range q.ring[:cap(q.ring)] {
			if x != "" {
				kept++
			}
		}
		if kept != q.Len() || len(q.ring) > 5 {
			t.Fatalf("turn %d: %d are kept, %d wait, the ring has %d places", turn, kept, q.Len(), len(q.ring))
		}
	}
}
