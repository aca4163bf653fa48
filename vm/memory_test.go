package vm_test

import (
	"cloister/api"
	"cloister/vm"
	"math/rand"
	"slices"
	"sync"
	"testing"
)

// overRun tells whether an instruction over a memory leaves these numbers, and
// what the memory was asked.
func overRun(t *testing.T, op int, m *book, numbers, want []int, note string) {
	t.Helper()
	m.notes = nil
	wantRunOver(t, one(op, 0), with(numbers...), m, 1, api.State{Pc: 1, Stack: want}, api.Stop{Kind: api.StopFuel, Used: 1})
	if !slices.Equal(m.notes, []string{note}) {
		t.Errorf("%v, not %s", m.notes, note)
	}
}

// overFail tells whether an instruction over a memory fails.
func overFail(t *testing.T, op int, m *book, numbers []int, notes ...string) {
	t.Helper()
	m.notes = nil
	before := slices.Clone(m.bytes)
	wantRunOver(t, one(op, 0), with(numbers...), m, 9, with(numbers...), api.Stop{Kind: api.StopFault, Used: 1})
	if !slices.Equal(m.notes, notes) || !slices.Equal(m.bytes, before) {
		t.Errorf("%v, not %v", m.notes, notes)
	}
}

// Vm1: Load, at places that the memory has and has not.
func TestLoad(t *testing.T) {
	m := &book{bytes: []byte{0, 1, 127, 128, 255}}
	overRun(t, api.Load, m, []int{0}, []int{0}, "load 0: 0")
	overRun(t, api.Load, m, []int{9, 1}, []int{9, 1}, "load 1: 1")
	overRun(t, api.Load, m, []int{2}, []int{127}, "load 2: 127")
	overRun(t, api.Load, m, []int{3}, []int{128}, "load 3: 128")
	overRun(t, api.Load, m, append(upTo(63), 4), append(upTo(63), 255), "load 4: 255")
	overFail(t, api.Load, m, []int{5}, "load 5: none")
	overFail(t, api.Load, m, []int{9, -1}, "load -1: none")
	overFail(t, api.Load, m, []int{1 << 32}, "load 4294967296: none")
	overFail(t, api.Load, m, []int{least}, "load -9223372036854775808: none")
	overFail(t, api.Load, m, []int{greatest}, "load 9223372036854775807: none")
	// Without a number the memory is not asked.
	overFail(t, api.Load, m, nil)
	// Which places there are, the memory alone tells.
	for _, from := range []int{least, -5, 4096, 1 << 40, greatest - 2} {
		m := &book{from: from, bytes: []byte{10, 20, 30}}
		for k := range 3 {
			wantRunOver(t, one(api.Load, 0), with(from+k), m, 1, api.State{Pc: 1, Stack: []int{10 * (k + 1)}}, api.Stop{Kind: api.StopFuel, Used: 1})
		}
	}
}

// Vm1: Store, at places that the memory has and has not, of numbers that are
// more than a byte.
func TestStore(t *testing.T) {
	m := blank(3)
	for _, x := range []struct {
		n int
		b byte
	}{{0, 0}, {1, 1}, {127, 127}, {128, 128}, {255, 255}, {256, 0}, {257, 1}, {511, 255}, {0x1234, 0x34}, {-1, 255}, {-2, 254}, {-128, 128}, {-256, 0}, {-257, 255}, {1 << 32, 0}, {1<<32 + 5, 5}, {least, 0}, {greatest, 255}} {
		for at := range 3 {
			m.notes = nil
			wantRunOver(t, one(api.Store, 0), with(6, x.n, at), m, 1, api.State{Pc: 1, Stack: []int{6}}, api.Stop{Kind: api.StopFuel, Used: 1})
			if m.bytes[at] != x.b || len(m.notes) != 1 {
				t.Errorf("%d at %d: %v, %v", x.n, at, m.bytes, m.notes)
			}
		}
	}
	m = blank(100)
	overRun(t, api.Store, m, []int{7, 2}, nil, "store 2: 7, true")
	overRun(t, api.Store, m, upTo(3), []int{1}, "store 3: 2, true")
	overRun(t, api.Store, m, upTo(64), upTo(62), "store 64: 63, true")
}

// Vm1: a Store that the memory does not take.
func TestStoreFails(t *testing.T) {
	m := blank(3)
	overFail(t, api.Store, m, []int{7, 3}, "store 3: 7, false")
	overFail(t, api.Store, m, []int{1, 263, -1}, "store -1: 7, false")
	overFail(t, api.Store, m, []int{-1, least}, "store -9223372036854775808: 255, false")
	overFail(t, api.Store, m, []int{256, greatest}, "store 9223372036854775807: 0, false")
	overFail(t, api.Store, m, []int{5, 1 << 32}, "store 4294967296: 5, false")
	// With too few numbers the memory is not told.
	overFail(t, api.Store, m, []int{2})
	overFail(t, api.Store, m, nil)
}

// Vm1: the memory is asked and told in order, once for each, and no more than
// the instructions that are done ask.
func TestOrder(t *testing.T) {
	l := of(t, "push 5\npush 0\nstore\npush 0\nload\npush 1\nstore\npush 6\npush 0\nstore\npush 1\nload\npush 0\nload\npush 9\nload\npush 0\nload")
	want := []string{"store 0: 5, true", "load 0: 5", "store 1: 5, true", "store 0: 6, true", "load 1: 5", "load 0: 6", "load 9: none"}
	for _, x := range []struct{ fuel, notes int }{{0, 0}, {2, 0}, {3, 1}, {4, 1}, {5, 2}, {7, 3}, {10, 4}, {12, 5}, {14, 6}, {15, 6}, {16, 7}, {17, 7}, {99, 7}} {
		m := blank(2)
		got, stop, e := vm.Run(l, api.State{}, m, x.fuel)
		if e != api.OK || !slices.Equal(m.notes, want[:x.notes]) {
			t.Errorf("by %d: %v, %v, %v", x.fuel, got, stop, m.notes)
		}
		if x.fuel > 15 && (stop != api.Stop{Kind: api.StopFault, Used: 16} || !same(got, api.State{Pc: 15, Stack: []int{5, 6, 9}})) {
			t.Errorf("by %d: %v, %v", x.fuel, got, stop)
		}
	}
}

// full takes so many bytes, and then no more.
type full struct{ left int }

func (f *full) Load(int) (byte, bool) { return 3, true }

func (f *full) Store(int, byte) bool {
	f.left--
	return f.left >= 0
}

// Vm1: what a memory answers is not known from what it answered ahead.
func TestFullMemory(t *testing.T) {
	l := of(t, "push 1\npush 0\nstore\njump 0")
	wantRunOver(t, l, api.State{}, &full{left: 5}, 1000, api.State{Pc: 2, Stack: []int{1, 0}}, api.Stop{Kind: api.StopFault, Used: 23})
	wantRunOver(t, of(t, "push 7\nload\nhalt"), api.State{}, &full{}, 1000, api.State{Pc: 2, Stack: []int{3}}, api.Stop{Kind: api.StopHalt, Used: 3})
}

// bare is a memory that is no pointer.
type bare byte

func (b bare) Load(int) (byte, bool) { return byte(b), true }

func (b bare) Store(int, byte) bool { return true }

// uncompared is one whose values can't be held against each other.
type uncompared []byte

func (u uncompared) Load(at int) (byte, bool) { return u[at], true }

func (u uncompared) Store(at int, b byte) bool {
	u[at] = b
	return true
}

// angry is one that panics.
type angry struct{ what any }

func (a angry) Load(int) (byte, bool) { panic(a.what) }

func (a angry) Store(int, byte) bool { panic(a.what) }

// R1: whatever memory is handed in, nothing panics: one that does neither has
// nor takes it.
func TestAnyMemory(t *testing.T) {
	load, store := of(t, "push 4\nload\nhalt"), of(t, "push 4\npush 5\nstore\nhalt")
	wantRunOver(t, load, api.State{}, bare(9), 9, api.State{Pc: 2, Stack: []int{9}}, api.Stop{Kind: api.StopHalt, Used: 3})
	wantRunOver(t, store, api.State{}, bare(0), 9, api.State{Pc: 3}, api.Stop{Kind: api.StopHalt, Used: 4})
	u := make(uncompared, 6)
	wantRunOver(t, store, api.State{}, u, 9, api.State{Pc: 3}, api.Stop{Kind: api.StopHalt, Used: 4})
	wantRunOver(t, load, api.State{}, u[1:], 9, api.State{Pc: 2, Stack: []int{4}}, api.Stop{Kind: api.StopHalt, Used: 3})
	var none *book
	for _, m := range []vm.Memory{u[:2], uncompared(nil), none, (*full)(nil), angry{"no"}, angry{nil}, angry{api.ErrArg}, struct{ vm.Memory }{}} {
		if m == vm.Memory((*full)(nil)) {
			// Its Load does not look at it.
			wantRunOver(t, load, api.State{}, m, 9, api.State{Pc: 2, Stack: []int{3}}, api.Stop{Kind: api.StopHalt, Used: 3})
		} else {
			wantRunOver(t, load, api.State{}, m, 9, api.State{Pc: 1, Stack: []int{4}}, api.Stop{Kind: api.StopFault, Used: 2})
		}
		wantRunOver(t, store, api.State{}, m, 9, api.State{Pc: 2, Stack: []int{4, 5}}, api.Stop{Kind: api.StopFault, Used: 3})
		wantRunOver(t, of(t, "push 1\nhalt"), api.State{}, m, 9, api.State{Pc: 1, Stack: []int{1}}, api.Stop{Kind: api.StopHalt, Used: 2})
	}
}

// spoiler changes what was handed in, whenever it is asked or told something.
type spoiler struct {
	code  []api.Instr
	state api.State
}

func (s spoiler) spoil() {
	spoil(s.code, api.Instr{Op: -9, A: -9})
	spoil(s.state.Stack, -7)
	spoil(s.state.Calls, -7)
}

func (s spoiler) Load(int) (byte, bool) {
	s.spoil()
	return 9, true
}

func (s spoiler) Store(int, byte) bool {
	s.spoil()
	return true
}

// nested runs a machine of its own over itself, whenever it is asked something.
type nested struct {
	t     *testing.T
	depth int
}

func (n nested) Load(at int) (byte, bool) {
	if n.depth == 0 {
		return byte(at), true
	}
	l := of(n.t, "push 1\nadd\nload\nhalt")
	got, stop, e := vm.Run(l, with(at), nested{n.t, n.depth - 1}, 9)
	if e != api.OK || stop.Kind != api.StopHalt || len(got.Stack) != 1 {
		n.t.Error(got, stop, e)
		return 0, false
	}
	return byte(got.Stack[0]), true
}

func (n nested) Store(int, byte) bool { return false }

// R1, R3, R4: a run goes by what it was given, whatever a memory does meanwhile.
func TestMeanwhile(t *testing.T) {
	l := of(t, "push 5\nload\npush 1\nstore\nadd\nret\nhalt\ntrap 8")
	s := api.State{Stack: []int{20, 30}, Calls: []int{0, 7}}
	wantRunOver(t, l, s, spoiler{l, s}, 99, api.State{Pc: 8, Stack: []int{50}, Calls: []int{0}}, api.Stop{Kind: api.StopTrap, Trap: 8, Used: 7})
	if l[0].Op != -9 || s.Stack[0] != -7 {
		t.Fatal("the memory was not asked")
	}
	wantRunOver(t, of(t, "load\nhalt"), with(100), nested{t, 20}, 9, api.State{Pc: 1, Stack: []int{120}}, api.Stop{Kind: api.StopHalt, Used: 2})
}

// spoil changes all that a list has, and the room behind it.
func spoil[T any](l []T, x T) {
	for i := range l[:cap(l)] {
		l[:cap(l)][i] = x
	}
}

// roomy is a list with others behind its end.
func roomy[T any](l []T, behind ...T) []T {
	return append(slices.Clone(l), behind...)[:len(l)]
}

// whole is a list with the room behind its end.
func whole[T any](l []T) []T {
	return slices.Clone(l[:cap(l)])
}

// guarded are a state and instructions with a room behind their ends, and what
// they were.
type guarded struct {
	code         []api.Instr
	state        api.State
	oldCode      []api.Instr
	stack, calls []int
}

func guard(l []api.Instr, s api.State) guarded {
	g := guarded{code: roomy(l, api.Instr{Op: -1}, api.Instr{Op: api.Halt}), state: api.State{Pc: s.Pc, Stack: roomy(s.Stack, -7, -8, -9), Calls: roomy(s.Calls, -7, 5000)}}
	g.oldCode, g.stack, g.calls = whole(g.code), whole(g.state.Stack), whole(g.state.Calls)
	return g
}

func (g guarded) stands(t *testing.T) {
	t.Helper()
	if !slices.Equal(whole(g.code), g.oldCode) || !slices.Equal(whole(g.state.Stack), g.stack) || !slices.Equal(whole(g.state.Calls), g.calls) {
		t.Fatal("an argument is changed:", shown(g.code), shown(g.state))
	}
}

// apart tells whether a state and numbers that were answered share memory with
// each other, or with what was handed in: each list is spoilt, with its room.
func apart(t *testing.T, g guarded, got api.State, numbers []int) {
	t.Helper()
	g.stands(t)
	stack, calls, others := slices.Clone(got.Stack), slices.Clone(got.Calls), slices.Clone(numbers)
	spoil(g.code, api.Instr{Op: -3})
	spoil(g.state.Stack, -3)
	spoil(g.state.Calls, -3)
	if !slices.Equal(got.Stack, stack) || !slices.Equal(got.Calls, calls) || !slices.Equal(numbers, others) {
		t.Fatal("an answer and an argument share memory:", shown(got), numbers)
	}
	spoil(got.Stack, -4)
	if !slices.Equal(got.Calls, calls) || !slices.Equal(numbers, others) {
		t.Fatal("two lists of an answer share memory:", shown(got), numbers)
	}
	spoil(got.Calls, -5)
	if !slices.Equal(numbers, others) {
		t.Fatal("two lists of an answer share memory:", shown(got), numbers)
	}
	spoil(numbers, -6)
	for _, l := range [][]int{whole(g.state.Stack), whole(g.state.Calls)} {
		for _, n := range l {
			if n != -3 {
				t.Fatal("an answer's room is an argument's:", l)
			}
		}
	}
	for _, l := range [][]int{whole(got.Stack), whole(got.Calls)} {
		if slices.Contains(l, -6) || slices.Contains(l, -3) {
			t.Fatal("two lists' rooms are the same:", l)
		}
	}
}

// R3: what is handed in is not changed, nor read beyond its end, nor kept; what
// is handed out is nobody else's.
func TestMemory(t *testing.T) {
	from := rand.New(rand.NewSource(3))
	for range 20000 {
		l, m := drawnCode(from, 1+from.Intn(20))
		s := drawnState(from, len(l))
		g := guard(l, s)
		got, _ := runs(t, g.code, g.state, m, from.Intn(40))
		apart(t, g, got, nil)

		g = guard(l, s)
		if next, e := vm.Push(g.state, 5); e == api.OK {
			apart(t, g, next, nil)
		}
		g = guard(l, s)
		if rest, numbers, e := vm.Take(g.state, from.Intn(len(s.Stack)+1)); e == api.OK {
			apart(t, g, rest, numbers)
		}
	}
	// A call that is refused leaves its arguments too.
	g := guard(of(t, "halt"), api.State{Pc: 9, Stack: upTo(64), Calls: []int{1}})
	vm.Run(g.code, g.state, blank(1), 1)
	vm.Push(g.state, 1)
	vm.Take(g.state, 65)
	vm.Take(g.state, -1)
	g.stands(t)
	// The room behind a list's end does not count: neither for how many there
	// are, nor for what they are.
	halts := slices.Repeat([]api.Instr{{Op: api.Halt}}, 2000)
	calls := append(make([]int, 32), -1, -1)
	wantRunOver(t, halts[:1024], api.State{Stack: make([]int, 64, 200), Calls: calls[:32]}, blank(0), 1, api.State{Stack: make([]int, 64), Calls: calls[:32]}, api.Stop{Kind: api.StopHalt, Used: 1})
}

// R3: two answers share nothing, nor does the package keep any of them.
func TestAnswers(t *testing.T) {
	l := of(t, "push 5\npush 6\npush 7\npop\ncall 5\ncall 6\ntrap 3")
	want := api.State{Pc: 7, Stack: []int{5, 6}, Calls: []int{5, 6}}
	var answers []api.State
	for range 5 {
		got, stop, e := vm.Run(l, api.State{}, blank(0), 100)
		if !same(got, want) || stop != (api.Stop{Kind: api.StopTrap, Trap: 3, Used: 7}) || e != api.OK {
			t.Fatal(got, stop, e)
		}
		more, _ := vm.Push(got, 8)
		less, numbers, _ := vm.Take(got, 1)
		for _, a := range answers {
			spoil(a.Stack, -1)
			spoil(a.Calls, -1)
		}
		if !same(got, want) || !same(more, api.State{Pc: 7, Stack: []int{5, 6, 8}, Calls: want.Calls}) || !same(less, api.State{Pc: 7, Stack: []int{5}, Calls: want.Calls}) || !slices.Equal(numbers, []int{6}) {
			t.Fatal("two answers share memory:", got, more, less, numbers)
		}
		answers = append(answers, got, more, less, api.State{Stack: numbers})
	}
}

// What was taken off is not to be found in the room behind an answer's end.
func TestNothingBehind(t *testing.T) {
	l := of(t, "push 41\npush 42\npush 43\ncall 4\ncall 5\npop\npop\nret\nhalt")
	for fuel := range 9 {
		got, _, _ := vm.Run(l, api.State{}, blank(0), fuel)
		for _, list := range [][]int{got.Stack, got.Calls} {
			if behind := whole(list)[len(list):]; slices.Max(append(behind, 0)) > 0 {
				t.Errorf("by %d: %v, and behind it %v", fuel, list, behind)
			}
		}
	}
}

// R3: nil and the empty list are the same.
func TestEmpty(t *testing.T) {
	l := of(t, "push 1\ncall 3\nhalt\nret")
	for _, s := range []api.State{{}, {Stack: []int{}}, {Calls: []int{}}, {Stack: []int{}, Calls: []int{}}, {Stack: upTo(3)[:0], Calls: upTo(3)[3:]}} {
		wantRun(t, l, s, 9, api.State{Pc: 2, Stack: []int{1}}, api.Stop{Kind: api.StopHalt, Used: 4})
		if next, e := vm.Push(s, 4); !same(next, with(4)) || e != api.OK {
			t.Error(next, e)
		}
		if rest, numbers, e := vm.Take(s, 0); !same(rest, api.State{}) || len(numbers) != 0 || e != api.OK {
			t.Error(rest, numbers, e)
		}
		if rest, numbers, e := vm.Take(s, 1); !same(rest, api.State{}) || numbers != nil || e != api.ErrNone {
			t.Error(rest, numbers, e)
		}
	}
}

// R4: many at one time answer as one alone does.
func TestTogether(t *testing.T) {
	var all sync.WaitGroup
	shared, _ := drawnCode(rand.New(rand.NewSource(1)), 20)
	for k := range 16 {
		all.Go(func() {
			from := rand.New(rand.NewSource(int64(k)))
			for range 300 {
				l, m := drawnCode(from, 20)
				if from.Intn(2) == 0 {
					l = shared
				}
				s, fuel := drawnState(from, len(l)), from.Intn(100)
				other := m.copy()
				want, wantStop := told(l, s, other, fuel)
				if got, stop, e := vm.Run(l, s, m, fuel); !same(got, want) || stop != wantStop || e != api.OK || !m.equal(other) {
					t.Error(shown(got), stop, e, shown(want), wantStop)
				}
			}
		})
	}
	all.Wait()
}
