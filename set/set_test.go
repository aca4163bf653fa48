package set_test

import (
	"cloister/api"
	"cloister/set"
	"math"
	"slices"
	"strconv"
	"testing"
)

type word string

// lists are all lists over the members of at most so many places: empty ones,
// rising, falling, with something twice.
func lists(members []int, most int) [][]int {
	all := [][]int{nil}
	for from := 0; most > 0; most-- {
		to := len(all)
		for _, l := range all[from:to] {
			for _, x := range members {
				all = append(all, append(slices.Clone(l), x))
			}
		}
		from = to
	}
	return all
}

// those are the numbers from -1 to 5 of which it holds, rising: a set as the
// document says it, by no code of the package.
func those(holds func(x int) bool) []int {
	var out []int
	for x := -1; x <= 5; x++ {
		if holds(x) {
			out = append(out, x)
		}
	}
	return out
}

func in(l []int, x int) bool {
	for _, y := range l {
		if x == y {
			return true
		}
	}
	return false
}

func same[T comparable](t *testing.T, what string, got, want []T) {
	t.Helper()
	if !slices.Equal(got, want) {
		t.Errorf("%s: %v, not %v", what, got, want)
	}
}

func filled(t *testing.T, room int, members ...int) *set.Set[int] {
	t.Helper()
	s, e := set.New[int](room)
	if e != api.OK || s == nil {
		t.Fatalf("New(%d): %v %v", room, s, e)
	}
	for _, x := range members {
		if e := s.Add(x); e != api.OK {
			t.Fatalf("Add(%d): %v", x, e)
		}
	}
	return s
}

func TestExamples(t *testing.T) {
	same(t, "Of", set.Of([]int{3, 1, 3}), []int{1, 3})
	same(t, "Join", set.Join([]int{1, 3}, []int{2, 3}), []int{1, 2, 3})
	same(t, "Less", set.Less([]int{1, 3}, []int{3}), []int{1})
	if !set.Within[int](nil, nil) {
		t.Error("none is not within none")
	}
	s := filled(t, 1)
	got := []api.Errno{s.Add(5), s.Add(5), s.Add(6), s.Del(6)}
	same(t, "a set with a room of 1", got, []api.Errno{api.OK, api.OK, api.ErrFull, api.ErrNone})
}

// Se1: each function against what the document says of it, at all small lists.
func TestListsOfOne(t *testing.T) {
	for _, l := range lists([]int{0, 1, 3, 4}, 4) {
		same(t, "Of", set.Of(l), those(func(x int) bool { return in(l, x) }))
		for x := -1; x <= 5; x++ {
			if set.Has(l, x) != in(l, x) {
				t.Fatalf("Has(%v, %d)", l, x)
			}
		}
	}
}

func TestListsOfTwo(t *testing.T) {
	all := lists([]int{0, 2, 3, 5}, 3)
	for _, a := range all {
		for _, b := range all {
			same(t, "Join", set.Join(a, b), those(func(x int) bool { return in(a, x) || in(b, x) }))
			same(t, "Meet", set.Meet(a, b), those(func(x int) bool { return in(a, x) && in(b, x) }))
			alone := those(func(x int) bool { return in(a, x) && !in(b, x) })
			same(t, "Less", set.Less(a, b), alone)
			if set.Within(a, b) != (len(alone) == 0) {
				t.Errorf("Within(%v, %v)", a, b)
			}
			if t.Failed() {
				t.Fatalf("at %v and %v", a, b)
			}
		}
	}
}

func TestListsOfOtherKinds(t *testing.T) {
	same(t, "texts", set.Of([]string{"b", "", "a\x00", "a", "b", "B", "ab"}), []string{"", "B", "a", "a\x00", "ab", "b"})
	same(t, "named texts", set.Join([]word{"z", "a"}, []word{"m", "z"}), []word{"a", "m", "z"})
	same(t, "bytes", set.Less([]uint8{255, 0, 128, 255}, []uint8{128}), []uint8{0, 255})
	same(t, "numbers", set.Meet([]int{math.MaxInt, math.MinInt, 0}, []int{math.MinInt, math.MaxInt}), []int{math.MinInt, math.MaxInt})
	inf := math.Inf(1)
	same(t, "floats", set.Of([]float64{inf, 0.5, -inf, 0.5, -1}), []float64{-inf, -1, 0.5, inf})
	if !set.Has([]string{"b", "a"}, "a") || set.Has([]string{"b", "a"}, "") || set.Has(nil, "") {
		t.Error("Has of texts")
	}
	if !set.Within([]float64{2, 1, 2}, []float64{3, 1, 2}) || set.Within([]float64{2.5}, []float64{2}) {
		t.Error("Within of floats")
	}
}

// Lists have no room: MaxSet holds for the objects alone.
func TestLongLists(t *testing.T) {
	const n = 5000
	var evens, threes, either, both, alone []int
	for x := 0; x < n; x++ {
		if x%2 == 0 {
			evens = append(evens, x)
		}
		if x%3 == 0 {
			threes = append(threes, x)
		}
		if x%2 == 0 || x%3 == 0 {
			either = append(either, x)
		}
		if x%6 == 0 {
			both = append(both, x)
		} else if x%2 == 0 {
			alone = append(alone, x)
		}
	}
	mixed := make([]int, 0, 2*len(evens))
	for i := range evens {
		mixed = append(mixed, evens[i*7%len(evens)], evens[len(evens)-1-i])
	}
	falling := slices.Clone(threes)
	slices.Reverse(falling)
	same(t, "Of", set.Of(mixed), evens)
	same(t, "Join", set.Join(mixed, falling), either)
	same(t, "Meet", set.Meet(mixed, falling), both)
	same(t, "Less", set.Less(mixed, falling), alone)
	if !set.Within(both, mixed) || set.Within(mixed, both) || !set.Has(falling, 3) || set.Has(falling, 4) {
		t.Error("Within or Has of long lists")
	}
}

// Se2.
func TestRooms(t *testing.T) {
	for _, room := range []int{math.MinInt, -64, -1, 0, 65, 66, 1 << 16, math.MaxInt} {
		if s, e := set.New[int](room); s != nil || e != api.ErrArg {
			t.Errorf("New(%d): %v %v", room, s, e)
		}
	}
	for room := 1; room <= 64; room++ {
		s := filled(t, room)
		same(t, "a new set", s.List(), nil)
		if s.Len() != 0 || s.Has(0) || s.Del(0) != api.ErrNone {
			t.Errorf("New(%d) is not empty", room)
		}
		for i := 0; i < room; i++ {
			if e := s.Add(i); e != api.OK || s.Len() != i+1 {
				t.Fatalf("room %d: Add(%d): %v, Len %d", room, i, e, s.Len())
			}
		}
		if e := s.Add(room); e != api.ErrFull || s.Has(room) || s.Len() != room {
			t.Fatalf("room %d: one more: %v", room, e)
		}
		for i := 0; i < room; i++ {
			if e := s.Add(i); e != api.OK || s.Len() != room {
				t.Fatalf("room %d: Add(%d) of what is there, in a full set: %v", room, i, e)
			}
		}
		if s.Del(0) != api.OK || s.Add(room) != api.OK || s.Add(0) != api.ErrFull {
			t.Fatalf("room %d: a place that is free again", room)
		}
	}
}

func TestSetRises(t *testing.T) {
	s := filled(t, 64, 5, -3, 9, 0, 5, math.MaxInt, math.MinInt, 9)
	same(t, "List", s.List(), []int{math.MinInt, -3, 0, 5, 9, math.MaxInt})
	for _, x := range []int{0, math.MinInt, math.MaxInt} {
		if s.Del(x) != api.OK || s.Has(x) || s.Del(x) != api.ErrNone {
			t.Errorf("Del(%d)", x)
		}
	}
	same(t, "List", s.List(), []int{-3, 5, 9})

	w, e := set.New[word](2)
	if e != api.OK || w.Add("b") != api.OK || w.Add("") != api.OK || w.Add("a") != api.ErrFull {
		t.Error("a set of texts")
	}
	same(t, "List", w.List(), []word{"", "b"})
}

// A long walk of calls, against a plain table of who is there.
func TestSetWalk(t *testing.T) {
	for _, room := range []int{1, 2, 7, 63, 64} {
		s := filled(t, room)
		there := make([]bool, 100)
		n, seed := 0, uint32(room)
		for i := 0; i < 4000; i++ {
			seed = seed*1664525 + 1013904223
			x := int(seed>>8) % len(there)
			add := (seed>>30)&1 == 0 || i%500 < 150
			want := api.OK
			switch {
			case add && !there[x] && n == room:
				want = api.ErrFull
			case add && !there[x]:
				there[x] = true
				n++
			case !add && !there[x]:
				want = api.ErrNone
			case !add:
				there[x] = false
				n--
			}
			got := api.OK
			if add {
				got = s.Add(x)
			} else {
				got = s.Del(x)
			}
			if got != want || s.Len() != n || s.Has(x) != there[x] {
				t.Fatalf("room %d, call %d: %v, not %v; Len %d, not %d", room, i, got, want, s.Len(), n)
			}
			var list []int
			for y, ok := range there {
				if ok {
					list = append(list, y)
				}
			}
			same(t, "room "+strconv.Itoa(room), s.List(), list)
			if t.Failed() {
				t.FailNow()
			}
		}
	}
}

// Se3.
func TestLaws(t *testing.T) {
	all := lists([]int{1, 2, 3}, 3)
	for _, a := range all {
		for _, b := range all {
			same(t, "Join, the other way round", set.Join(b, a), set.Join(a, b))
			same(t, "Meet, the other way round", set.Meet(b, a), set.Meet(a, b))
			same(t, "what Less and Meet share", set.Meet(set.Less(a, b), set.Meet(a, b)), nil)
			same(t, "Less and Meet", set.Join(set.Less(a, b), set.Meet(a, b)), set.Of(a))
			if set.Within(a, b) != slices.Equal(set.Join(a, b), set.Of(b)) {
				t.Errorf("Within(%v, %v)", a, b)
			}
			for _, c := range all {
				same(t, "Join, grouped", set.Join(set.Join(a, b), c), set.Join(a, set.Join(b, c)))
				same(t, "Meet, grouped", set.Meet(set.Meet(a, b), c), set.Meet(a, set.Meet(b, c)))
				same(t, "Join through Meet", set.Join(a, set.Meet(b, c)), set.Meet(set.Join(a, b), set.Join(a, c)))
				same(t, "Meet through Join", set.Meet(a, set.Join(b, c)), set.Join(set.Meet(a, b), set.Meet(a, c)))
				if t.Failed() {
					t.Fatalf("at %v, %v, %v", a, b, c)
				}
			}
		}
	}
}

// R1: sets that New or Copy did not give.
func TestSetsOfNobody(t *testing.T) {
	s := filled(t, 3, 1, 2)
	byValue := *s
	byMove := new(set.Set[int])
	*byMove = *s
	for i, z := range []*set.Set[int]{nil, {}, new(set.Set[int]), &byValue, byMove} {
		if e := z.Add(1); e != api.ErrArg {
			t.Errorf("%d: Add: %v", i, e)
		}
		if e := z.Add(7); e != api.ErrArg {
			t.Errorf("%d: Add: %v", i, e)
		}
		if e := z.Del(1); e != api.ErrArg {
			t.Errorf("%d: Del: %v", i, e)
		}
		if z.Has(1) || z.Has(0) || z.Len() != 0 || len(z.List()) != 0 || z.Copy() != nil {
			t.Errorf("%d: Has %v, Len %d, List %v, Copy %v", i, z.Has(1), z.Len(), z.List(), z.Copy())
		}
	}
	same(t, "the set itself", s.List(), []int{1, 2})

	var none *set.Set[string]
	if none.Add("") != api.ErrArg || none.Del("") != api.ErrArg || none.Has("") || none.Copy() != nil {
		t.Error("no set of texts")
	}
}

// R1: of floats that are no numbers nothing is promised but that calls end.
func TestNoNumbers(t *testing.T) {
	nan := math.NaN()
	l := []float64{2, nan, 1, nan, 2}
	set.Of(l)
	set.Has(l, nan)
	set.Join(l, l)
	set.Meet(l, l)
	set.Less(l, l)
	set.Within(l, l)
	s, _ := set.New[float64](2)
	for i := 0; i < 5; i++ {
		s.Add(nan)
		s.Add(float64(i))
		s.Has(nan)
		s.Del(nan)
	}
	if s.Copy() == nil || s.Len() > 2 || len(s.List()) > 2 {
		t.Error(s.List())
	}
}

// R2: a call that is refused has changed nothing.
func TestRefused(t *testing.T) {
	s := filled(t, 3, 4, 2, 6)
	for x := 1; x <= 7; x += 2 {
		if e := s.Add(x); e != api.ErrFull {
			t.Errorf("Add(%d): %v", x, e)
		}
		if e := s.Del(x); e != api.ErrNone {
			t.Errorf("Del(%d): %v", x, e)
		}
		same(t, "behind what was refused", s.List(), []int{2, 4, 6})
		if s.Len() != 3 || s.Has(x) {
			t.Errorf("behind %d: Len %d, Has %v", x, s.Len(), s.Has(x))
		}
	}
	if s.Del(4) != api.OK || s.Add(5) != api.OK || s.Add(4) != api.ErrFull {
		t.Error("the room behind what was refused")
	}
}

// roomy is a list with room behind its end, in which other members lie.
func roomy(members ...int) (list, whole []int) {
	whole = append(slices.Clone(members), 2, 9, 1, 9, 7, 0, 3, 5)
	return whole[:len(members)], whole
}

// spoil overwrites a list and its spare room.
func spoil(l []int) {
	l = l[:cap(l)]
	for i := range l {
		l[i] = -77
	}
}

// R3: arguments are not read beyond their end, not changed, not kept; answers
// are new memory.
func TestMemoryOfLists(t *testing.T) {
	calls := map[string]func(a, b []int) []int{
		"Of":   func(a, b []int) []int { return set.Of(a) },
		"Join": set.Join[int],
		"Meet": set.Meet[int],
		"Less": set.Less[int],
	}
	pairs := [][2][]int{
		{{5, 4, 5, 2}, {4, 8, 4}},
		{{1, 2, 3}, {1, 2, 3}},
		{{1, 2, 3}, {4, 5}},
		{{1}, {}},
		{{}, {1, 2}},
		{{}, {}},
	}
	for name, f := range calls {
		for _, p := range pairs {
			a, wholeA := roomy(p[0]...)
			b, wholeB := roomy(p[1]...)
			keptA, keptB := slices.Clone(wholeA), slices.Clone(wholeB)
			want := f(slices.Clone(p[0]), slices.Clone(p[1]))
			first, second := f(a, b), f(a, b)
			same(t, name+" beside what lies behind the end", first, want)
			spoil(first)
			same(t, name+": another answer", second, want)
			same(t, name+": the first argument", wholeA, keptA)
			same(t, name+": the second argument", wholeB, keptB)
			spoil(wholeA)
			spoil(wholeB)
			same(t, name+": behind a change of the arguments", second, want)
		}
	}
	a, whole := roomy(3, 1)
	kept := slices.Clone(whole)
	if set.Has(a, 2) || set.Within([]int{2}, a) || !set.Within(a, []int{1, 3}) {
		t.Error("what lies behind the end is read")
	}
	same(t, "the argument of Has and Within", whole, kept)
	if len(set.Of([]int{})) != 0 || len(set.Of[int](nil)) != 0 || !set.Within([]int{}, nil) || !set.Within(nil, []int{}) {
		t.Error("nil and the empty list differ")
	}
	same(t, "Join of a list and itself", set.Join(a, a), []int{1, 3})
}

func TestMemoryOfSets(t *testing.T) {
	s := filled(t, 8, 3, 1, 2)
	first, second := s.List(), s.List()
	spoil(first)
	same(t, "another answer", second, []int{1, 2, 3})
	same(t, "the set", s.List(), []int{1, 2, 3})
	s.Del(1)
	s.Add(9)
	same(t, "an answer behind later calls", second, []int{1, 2, 3})
	same(t, "the set behind later calls", s.List(), []int{2, 3, 9})
}

// R4: objects know nothing of one another; Copy stands as the set does.
func TestCopy(t *testing.T) {
	s := filled(t, 4, 7, 5, 6)
	c := s.Copy()
	same(t, "Copy", c.List(), []int{5, 6, 7})
	if s.Del(5) != api.OK || s.Add(1) != api.OK {
		t.Error("the set behind Copy")
	}
	same(t, "Copy, the set being changed", c.List(), []int{5, 6, 7})
	if c.Add(8) != api.OK || c.Add(9) != api.ErrFull || c.Del(6) != api.OK {
		t.Error("the copy has another room")
	}
	same(t, "the set, Copy being changed", s.List(), []int{1, 6, 7})
	again := c.Copy()
	same(t, "Copy of Copy", again.List(), []int{5, 7, 8})
	if again.Add(6) != api.OK || again.Add(4) != api.ErrFull || c.Len() != 3 {
		t.Error("Copy of Copy")
	}
	empty := filled(t, 1).Copy()
	if empty.Len() != 0 || empty.Add(3) != api.OK || empty.Add(4) != api.ErrFull {
		t.Error("Copy of an empty set")
	}
}

func TestSetsApart(t *testing.T) {
	a, b := filled(t, 2, 1), filled(t, 2)
	if b.Has(1) || b.Add(4) != api.OK || a.Has(4) || a.Add(3) != api.OK || a.Add(4) != api.ErrFull || b.Len() != 1 {
		t.Error("sets know of one another")
	}
	again := filled(t, 2, 1, 3)
	same(t, "the same calls on another set", again.List(), a.List())
}
