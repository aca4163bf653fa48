package queue_test

import (
	"cloister/api"
	"cloister/queue"
	"math"
	"slices"
	"strconv"
	"testing"
)

// line is a queue as the document says it, by no code of the package: all that
// was pushed and not dropped, in order, and how many of it went out.
type line[T any] struct {
	room, out, drops int
	all              []T
}

func (l *line[T]) push(x T) bool {
	if len(l.all)-l.out == l.room {
		l.drops++
		return false
	}
	l.all = append(l.all, x)
	return true
}

func (l *line[T]) pop() (x T, ok bool) {
	if l.out == len(l.all) {
		return x, false
	}
	l.out++
	return l.all[l.out-1], true
}

func made[T any](t *testing.T, room int, waiting ...T) *queue.Queue[T] {
	t.Helper()
	q, e := queue.New[T](room)
	if e != api.OK || q == nil {
		t.Fatalf("New(%d): %v %v", room, q, e)
	}
	for _, x := range waiting {
		if !q.Push(x) {
			t.Fatalf("Push(%v) into a room of %d", x, room)
		}
	}
	return q
}

// stands holds against a queue what it should tell of itself.
func stands[T comparable](t *testing.T, what string, q *queue.Queue[T], drops int, waiting ...T) {
	t.Helper()
	if got := q.Items(); !slices.Equal(got, waiting) {
		t.Errorf("%s: Items %v, not %v", what, got, waiting)
	}
	if q.Len() != len(waiting) || q.Drops() != drops {
		t.Errorf("%s: Len %d, not %d; Drops %d, not %d", what, q.Len(), len(waiting), q.Drops(), drops)
	}
}

// goesOut pops all that is wanted, and then finds nothing.
func goesOut[T comparable](t *testing.T, what string, q *queue.Queue[T], want ...T) {
	t.Helper()
	for _, w := range want {
		if x, ok := q.Pop(); x != w || !ok {
			t.Errorf("%s: Pop: %v %v, not %v", what, x, ok, w)
		}
	}
	var zero T
	if x, ok := q.Pop(); x != zero || ok {
		t.Errorf("%s: Pop of nothing: %v %v", what, x, ok)
	}
}

func TestExamples(t *testing.T) {
	q := made(t, 2, 1, 2)
	if q.Push(3) || q.Drops() != 1 {
		t.Error("Push of 3")
	}
	if x, ok := q.Pop(); x != 1 || !ok {
		t.Error("Pop:", x, ok)
	}
	if !q.Push(4) {
		t.Error("Push of 4")
	}
	stands(t, "the example", q, 1, 2, 4)
}

func TestRooms(t *testing.T) {
	for _, room := range []int{math.MinInt, -1 << 16, -1, 0, api.MaxRoom + 1, 1 << 17, 1<<32 + 1, math.MaxInt} {
		if q, e := queue.New[int](room); q != nil || e != api.ErrArg {
			t.Errorf("New(%d): %v %v", room, q, e)
		}
		if q, e := queue.New[string](room); q != nil || e != api.ErrArg {
			t.Errorf("New(%d) for texts: %v %v", room, q, e)
		}
	}
	if api.MaxRoom != 1<<16 {
		t.Error("MaxRoom:", api.MaxRoom)
	}
	for _, room := range []int{1, 2, 3, 5, 64, 1000, api.MaxRoom - 1, api.MaxRoom} {
		q := made[int](t, room)
		stands(t, "a new queue", q, 0)
		goesOut(t, "a new queue", q)
		want := make([]int, room)
		for i := range want {
			want[i] = i + 7
			if !q.Push(i + 7) {
				t.Fatalf("room %d: Push at %d", room, i)
			}
		}
		for i := range 3 {
			if q.Push(-i) || q.Drops() != i+1 {
				t.Fatalf("room %d: Push beyond it; Drops %d", room, q.Drops())
			}
		}
		stands(t, "a full queue", q, 3, want...)
		goesOut(t, "a full queue", q, want...)
		stands(t, "an emptied queue", q, 3)
	}
}

// Things of many bytes in the greatest room, and things of none.
func TestGreatThings(t *testing.T) {
	q := made[[1 << 20]byte](t, api.MaxRoom)
	var x [1 << 20]byte
	for i := range byte(3) {
		x[1<<20-1] = i
		if !q.Push(x) {
			t.Error("Push", i)
		}
	}
	for i := range byte(3) {
		if x, ok := q.Pop(); x[1<<20-1] != i || !ok {
			t.Error("Pop", i)
		}
	}
	none := made(t, 2, struct{}{}, struct{}{})
	if none.Push(struct{}{}) || none.Len() != 2 || len(none.Items()) != 2 || none.Drops() != 1 {
		t.Error("things without bytes")
	}
}

// follow does all scripts of so many calls on a queue and on what it should
// be: of the bits of a script each says whether to push or to pop.
func follow[T comparable](t *testing.T, room, calls int, named func(int) T) {
	t.Helper()
	for script := range 1 << calls {
		q, l := made[T](t, room), &line[T]{room: room}
		pushed, cameOut := 0, []T{}
		for i := range calls {
			if script>>i&1 == 0 {
				pushed++
				if x := named(pushed); q.Push(x) != l.push(x) {
					t.Fatalf("room %d, script %b: Push at %d", room, script, i)
				}
			} else {
				x, ok := q.Pop()
				if y, there := l.pop(); x != y || ok != there {
					t.Fatalf("room %d, script %b: Pop at %d: %v %v, not %v %v", room, script, i, x, ok, y, there)
				}
				if ok {
					cameOut = append(cameOut, x)
				}
			}
			stands(t, "on the way", q, l.drops, l.all[l.out:]...)
			if pushed != q.Drops()+len(cameOut)+q.Len() || !slices.Equal(append(slices.Clone(cameOut), q.Items()...), l.all) {
				t.Errorf("pushed %d, dropped %d, came out %v, waits %v", pushed, q.Drops(), cameOut, q.Items())
			}
			if t.Failed() {
				t.Fatalf("room %d, script %b, at %d", room, script, i)
			}
		}
	}
}

func TestAllShortScripts(t *testing.T) {
	for room := 1; room <= 5; room++ {
		follow(t, room, 11, func(i int) int { return i })
		follow(t, room, 9, func(i int) string { return "text " + strconv.Itoa(i) })
	}
	// The same thing again and again, the zero one too, counts each time.
	follow(t, 3, 9, func(i int) int { return i % 2 })
	follow(t, 3, 9, func(int) string { return "" })
}

// Qu2: more goes in and out than the room is great, in bursts of many lengths,
// so that the queue is written round its end at each place of it.
func TestRoundAndRound(t *testing.T) {
	for _, room := range []int{1, 2, 3, 4, 7, 8, 9, 100, 257} {
		q, l := made[int](t, room), &line[int]{room: room}
		pushed, cameOut := 0, 0
		for turn := range 40 {
			for range (turn*5 + 3) % (room + 2) {
				pushed++
				if q.Push(pushed) != l.push(pushed) {
					t.Fatalf("room %d: Push %d", room, pushed)
				}
			}
			for range (turn*3 + 1) % (room + 2) {
				x, ok := q.Pop()
				if y, there := l.pop(); x != y || ok != there {
					t.Fatalf("room %d: Pop: %d %v, not %d %v", room, x, ok, y, there)
				}
				if ok {
					cameOut++
				}
			}
			stands(t, "turn "+strconv.Itoa(turn), q, l.drops, l.all[l.out:]...)
			if pushed != q.Drops()+cameOut+q.Len() {
				t.Fatalf("room %d: pushed %d, dropped %d, came out %d, wait %d", room, pushed, q.Drops(), cameOut, q.Len())
			}
		}
		if pushed <= 3*room {
			t.Fatalf("room %d: only %d were pushed", room, pushed)
		}
		goesOut(t, "the rest", q, l.all[l.out:]...)
	}
}

// The greatest room, written round its end while it is full.
func TestGreatestRoomRound(t *testing.T) {
	q := made[int](t, api.MaxRoom)
	next := 0
	for range api.MaxRoom {
		q.Push(next)
		next++
	}
	for out := range api.MaxRoom + 10 {
		if x, ok := q.Pop(); x != out || !ok || q.Len() != api.MaxRoom-1 {
			t.Fatalf("Pop: %d %v, Len %d", x, ok, q.Len())
		}
		if !q.Push(next) || q.Push(-1) || q.Drops() != out+1 {
			t.Fatalf("Push of %d, Drops %d", next, q.Drops())
		}
		next++
	}
	items := q.Items()
	for i, x := range items {
		if x != api.MaxRoom+10+i {
			t.Fatalf("Items at %d: %d", i, x)
		}
	}
	if len(items) != api.MaxRoom {
		t.Error(len(items))
	}
}

func TestTexts(t *testing.T) {
	q := made(t, 3, "one", "", "\x00\xff")
	if q.Push("four") {
		t.Error("Push beyond the room")
	}
	stands(t, "texts", q, 1, "one", "", "\x00\xff")
	if x, ok := q.Pop(); x != "one" || !ok {
		t.Error(x, ok)
	}
	if !q.Push("five") || q.Push("six") {
		t.Error("Push behind Pop")
	}
	stands(t, "texts", q, 2, "", "\x00\xff", "five")
	goesOut(t, "texts", q, "", "\x00\xff", "five")
}

// R1: queues that New or Copy did not give.
func TestQueuesOfNobody(t *testing.T) {
	q := made(t, 2, 1, 2)
	q.Push(3)
	byValue := *q
	byMove := new(queue.Queue[int])
	*byMove = *q.Copy()
	for i, z := range []*queue.Queue[int]{nil, {}, new(queue.Queue[int]), &byValue, byMove} {
		for range 2 {
			if z.Push(4) || z.Len() != 0 || z.Drops() != 0 || len(z.Items()) != 0 || z.Copy() != nil {
				t.Errorf("%d: Len %d, Drops %d, Items %v, Copy %v", i, z.Len(), z.Drops(), z.Items(), z.Copy())
			}
			if x, ok := z.Pop(); x != 0 || ok {
				t.Errorf("%d: Pop: %d %v", i, x, ok)
			}
		}
	}
	stands(t, "the queue itself", q, 1, 1, 2)

	var none *queue.Queue[string]
	if x, ok := none.Pop(); x != "" || ok || none.Push("") || none.Copy() != nil || none.Items() != nil {
		t.Error("no queue of texts")
	}
}

// R2: what is refused changes nothing but the count of drops; a Pop of nothing
// not even that.
func TestRefused(t *testing.T) {
	q := made(t, 3, 5, 6, 7)
	for i := 1; i <= 9; i++ {
		if q.Push(i) {
			t.Error("Push beyond the room")
		}
		stands(t, "behind what was dropped", q, i, 5, 6, 7)
	}
	goesOut(t, "behind what was dropped", q, 5, 6, 7)
	for range 9 {
		goesOut(t, "nothing", q)
		stands(t, "behind Pop of nothing", q, 9)
	}
	for i := range 3 {
		if !q.Push(i) {
			t.Error("Push behind Pop of nothing")
		}
	}
	if q.Push(3) {
		t.Error("the room has grown")
	}
	stands(t, "filled again", q, 10, 0, 1, 2)
}

// spoil overwrites a list and its spare room.
func spoil(l []int) {
	l = l[:cap(l)]
	for i := range l {
		l[i] = -77
	}
}

// R3: what Items answers is new memory, its spare room too, wherever in the
// queue's own list what waits begins.
func TestMemory(t *testing.T) {
	for gone := range 12 {
		q := made[int](t, 5)
		for i := range gone {
			q.Push(i)
			q.Pop()
		}
		for waits := range 5 {
			want := slices.Clone(q.Items())
			first, second := q.Items(), q.Items()
			for _, x := range first[len(first):cap(first)] {
				if x != 0 {
					t.Error("something lies in the spare room:", x)
				}
			}
			spoil(first)
			stands(t, "behind a change of what Items answered", q, 0, want...)
			if !slices.Equal(second, want) {
				t.Error("another answer:", second)
			}
			if !q.Push(100 + waits) {
				t.Error("Push")
			}
			if !slices.Equal(second, want) {
				t.Error("an answer behind Push:", second)
			}
			stands(t, "behind Push", q, 0, append(want, 100+waits)...)
		}
		held := q.Items()
		want := slices.Clone(held)
		goesOut(t, "all", q, want...)
		q.Push(1)
		if !slices.Equal(held, want) {
			t.Error("an answer behind Pop:", held)
		}
	}
	a := append(made[int](t, 4, 1, 2).Items(), 3)
	if !slices.Equal(a, []int{1, 2, 3}) {
		t.Error(a)
	}
}

// R4: Copy stands as the queue does; neither knows of the other.
func TestCopy(t *testing.T) {
	for gone := range 9 {
		for waits := range 5 {
			q := made[int](t, 4)
			for i := range gone {
				q.Push(i)
				q.Pop()
			}
			want := []int{}
			for i := range waits {
				q.Push(10 + i)
				want = append(want, 10+i)
			}
			drops := 0
			if waits == 4 {
				q.Push(99)
				drops = 1
			}
			c := q.Copy()
			stands(t, "Copy", c, drops, want...)
			later := q.Copy()

			goesOut(t, "the queue", q, want...)
			for i := range 6 {
				q.Push(20 + i)
			}
			stands(t, "Copy, the queue being changed", c, drops, want...)
			stands(t, "the queue", q, drops+2, 20, 21, 22, 23)

			for i := range 4 {
				if c.Push(30+i) != (waits+i < 4) {
					t.Errorf("the copy has another room: %d wait, Push %d", waits, i)
				}
				if waits+i < 4 {
					want = append(want, 30+i)
				}
			}
			stands(t, "Copy, changed", c, drops+waits, want...)
			stands(t, "the queue, Copy being changed", q, drops+2, 20, 21, 22, 23)
			goesOut(t, "Copy", c, want...)
			stands(t, "the queue, Copy being emptied", q, drops+2, 20, 21, 22, 23)
			stands(t, "another copy", later, drops, want[:waits]...)
			stands(t, "Copy of Copy", later.Copy(), drops, want[:waits]...)
			if t.Failed() {
				t.Fatalf("%d gone, %d waiting", gone, waits)
			}
		}
	}
}

func TestQueuesApart(t *testing.T) {
	a, b := made(t, 1, 1), made[int](t, 2)
	if a.Push(2) || b.Len() != 0 || b.Drops() != 0 || !b.Push(5) || !b.Push(6) {
		t.Error("queues know of one another")
	}
	stands(t, "the one", a, 1, 1)
	stands(t, "the other", b, 0, 5, 6)
	again := made(t, 2, 5, 6)
	stands(t, "the same calls on another queue", again, b.Drops(), b.Items()...)
}
