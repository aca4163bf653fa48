package vm_test

import (
	"cloister/api"
	"cloister/code"
	"cloister/vm"
	"math"
	"slices"
	"testing"
)

const (
	least    = math.MinInt64
	greatest = math.MaxInt64
)

// of are the instructions of a text.
func of(t *testing.T, text string) []api.Instr {
	t.Helper()
	l, e, at := code.Parse(text)
	if e != api.OK {
		t.Fatal(text, e, at)
	}
	return l
}

// one is a list of one instruction, with some behind it that are not done.
func one(op, a int) []api.Instr {
	return []api.Instr{{Op: op, A: a}, {Op: api.Halt}, {Op: api.Halt}, {Op: api.Halt}}
}

// upTo are the numbers from 1 on, so many.
func upTo(n int) []int {
	out := make([]int, n)
	for i := range out {
		out[i] = i + 1
	}
	return out
}

// with is a state with these numbers, ahead of all instructions.
func with(numbers ...int) api.State {
	return api.State{Stack: numbers}
}

// wantRun tells whether a run, over a memory without bytes, ends so.
func wantRun(t *testing.T, l []api.Instr, s api.State, fuel int, want api.State, stop api.Stop) {
	t.Helper()
	wantRunOver(t, l, s, blank(0), fuel, want, stop)
}

// wantRunOver tells whether a run over a memory ends so.
func wantRunOver(t *testing.T, l []api.Instr, s api.State, m vm.Memory, fuel int, want api.State, stop api.Stop) {
	t.Helper()
	got, gotStop, e := vm.Run(l, s, m, fuel)
	if !same(got, want) || gotStop != stop || e != api.OK {
		t.Errorf("%s, %s by %d: %s, %v, %d, not %s, %v", shown(l), shown(s), fuel, shown(got), gotStop, e, shown(want), stop)
	}
}

// leaves tells whether an instruction leaves these numbers, and the next one is
// next.
func leaves(t *testing.T, op, a int, numbers []int, want []int) {
	t.Helper()
	wantRun(t, one(op, a), with(numbers...), 1, api.State{Pc: 1, Stack: want}, api.Stop{Kind: api.StopFuel, Used: 1})
}

// fails tells whether an instruction fails, the state being as it was.
func fails(t *testing.T, op, a int, s api.State) {
	t.Helper()
	s.Pc = 1
	l := []api.Instr{{Op: api.Halt}, {Op: op, A: a}, {Op: api.Halt}, {Op: api.Halt}}
	for _, fuel := range []int{1, 2, api.MaxFuel} {
		wantRun(t, l, s, fuel, s, api.Stop{Kind: api.StopFault, Used: 1})
	}
}

// The document's examples.
func TestExamples(t *testing.T) {
	sum := of(t, "push 2\npush 3\nadd\nhalt")
	wantRun(t, sum, api.State{}, 9, api.State{Pc: 3, Stack: []int{5}}, api.Stop{Kind: api.StopHalt, Used: 4})
	wantRun(t, sum, api.State{}, 2, api.State{Pc: 2, Stack: []int{2, 3}}, api.Stop{Kind: api.StopFuel, Used: 2})
	wantRun(t, of(t, "push 1\npush 0\ndiv"), api.State{}, 9, api.State{Pc: 2, Stack: []int{1, 0}}, api.Stop{Kind: api.StopFault, Used: 3})
	wantRun(t, of(t, "trap 7"), api.State{}, 9, api.State{Pc: 1}, api.Stop{Kind: api.StopTrap, Trap: 7, Used: 1})
}

// wantRefused tells whether Run refuses, tells nothing else, and asks the memory
// nothing.
func wantRefused(t *testing.T, l []api.Instr, s api.State, fuel int, want api.Errno) {
	t.Helper()
	m := blank(10)
	got, stop, e := vm.Run(l, s, m, fuel)
	if e != want || !same(got, api.State{}) || stop != (api.Stop{}) || len(m.notes) > 0 {
		t.Errorf("%s, %s by %d: %s, %v, %d, not %d; %v", shown(l), shown(s), fuel, shown(got), stop, e, want, m.notes)
	}
	if got, stop, e = vm.Run(l, s, nil, fuel); e != want || !same(got, api.State{}) || stop != (api.Stop{}) {
		t.Errorf("%s, %s by %d, no memory: %s, %v, %d, not %d", shown(l), shown(s), fuel, shown(got), stop, e, want)
	}
}

// wantTaken tells whether Run takes it; without a memory it does not.
func wantTaken(t *testing.T, l []api.Instr, s api.State, fuel int) {
	t.Helper()
	if got, stop, e := vm.Run(l, s, blank(10), fuel); e != api.OK || stop.Kind == 0 {
		t.Errorf("%s, %s by %d: %s, %v, %d", shown(l), shown(s), fuel, shown(got), stop, e)
	}
	if got, stop, e := vm.Run(l, s, nil, fuel); e != api.ErrArg || !same(got, api.State{}) || stop != (api.Stop{}) {
		t.Errorf("%s, %s by %d, no memory: %s, %v, %d", shown(l), shown(s), fuel, shown(got), stop, e)
	}
}

// wrongStates are states that may not be, for so many instructions, each for one
// reason alone.
func wrongStates(count int) []api.State {
	out := []api.State{
		{Pc: -1}, {Pc: count + 1}, {Pc: least}, {Pc: greatest}, {Pc: 1 << 32}, {Pc: -1 << 32},
		{Stack: make([]int, 65)}, {Stack: make([]int, 66)}, {Stack: make([]int, 1000)},
		{Calls: make([]int, 33)}, {Calls: make([]int, 34)}, {Calls: make([]int, 1000)},
	}
	for _, n := range []int{1, 2, 32} {
		for _, at := range []int{0, n / 2, n - 1} {
			for _, pc := range []int{-1, count + 1, least, greatest, 1 << 32} {
				calls := make([]int, n)
				calls[at] = pc
				out = append(out, api.State{Calls: calls})
			}
		}
	}
	return out
}

// rightStates are those at the edges that may be.
func rightStates(count int) []api.State {
	out := []api.State{
		{}, {Pc: count}, {Stack: make([]int, 64)}, {Stack: make([]int, 63)}, {Stack: []int{least, -1, greatest}},
		{Calls: make([]int, 32)}, {Calls: make([]int, 31)}, {Calls: []int{count}}, {Calls: []int{0}},
		{Pc: count, Stack: make([]int, 64), Calls: slices.Repeat([]int{count}, 32)},
		{Pc: 0, Stack: []int{}, Calls: []int{}},
	}
	return out
}

// Vm1, R2: what Check refuses, ahead of each ErrArg.
func TestCheckAhead(t *testing.T) {
	halts := slices.Repeat([]api.Instr{{Op: api.Halt}}, 1025)
	wrong := []struct {
		l []api.Instr
		e api.Errno
	}{
		{nil, api.ErrFull},
		{[]api.Instr{}, api.ErrFull},
		{halts, api.ErrFull},
		{[]api.Instr{{}}, api.ErrCode},
		{[]api.Instr{{Op: 26}}, api.ErrCode},
		{[]api.Instr{{Op: -1}}, api.ErrCode},
		{[]api.Instr{{Op: api.Halt}, {Op: api.Jump, A: 2}}, api.ErrCode},
		{[]api.Instr{{Op: api.Halt}, {Op: api.Dup, A: 64}}, api.ErrCode},
		{[]api.Instr{{Op: api.Halt}, {Op: api.Trap, A: 100}}, api.ErrCode},
		{[]api.Instr{{Op: api.Halt}, {Op: api.Add, A: 1}}, api.ErrCode},
		{append(slices.Clone(halts[:1023]), api.Instr{Op: api.If, A: -1}), api.ErrCode},
		{append(slices.Clone(halts), api.Instr{}), api.ErrFull},
	}
	for _, x := range wrong {
		for _, s := range append(wrongStates(len(x.l)), rightStates(len(x.l))...) {
			for _, fuel := range []int{least, -1, 0, 1, api.MaxFuel, api.MaxFuel + 1, greatest} {
				wantRefused(t, x.l, s, fuel, x.e)
			}
		}
	}
	wantTaken(t, halts[:1024], api.State{}, 1)
	wantTaken(t, halts[:1], api.State{}, 1)
}

// Vm1: which states, which fuel may be; no memory.
func TestArguments(t *testing.T) {
	for _, l := range [][]api.Instr{
		{{Op: api.Halt}},
		{{Op: api.Pop}, {Op: api.Ret}, {Op: api.Halt}},
		slices.Repeat([]api.Instr{{Op: api.Trap, A: 99}}, 1024),
	} {
		for _, s := range wrongStates(len(l)) {
			for _, fuel := range []int{least, -1, 0, 1, 100, api.MaxFuel, api.MaxFuel + 1, greatest} {
				wantRefused(t, l, s, fuel, api.ErrArg)
			}
		}
		for _, s := range rightStates(len(l)) {
			for _, fuel := range []int{least, -1 << 32, -2, -1, 1<<20 + 1, 1<<20 + 2, 1 << 32, greatest} {
				wantRefused(t, l, s, fuel, api.ErrArg)
			}
			for _, fuel := range []int{0, 1, 2, 1<<20 - 1, 1 << 20} {
				wantTaken(t, l, s, fuel)
			}
		}
	}
}

// Vm1: as much fuel as is given, and no more; without fuel nothing is done, not
// even what would fail.
func TestFuel(t *testing.T) {
	for _, x := range []string{"jump 0", "push 1\npop\njump 0", "push 1\nif 0\nhalt", "call 3\njump 0\nhalt\nret"} {
		l := of(t, x)
		for _, fuel := range []int{0, 1, 2, 3, 12, 120, 1<<20 - 4, 1<<20 - 1, 1 << 20} {
			got, stop, e := vm.Run(l, api.State{}, blank(0), fuel)
			if e != api.OK || stop != (api.Stop{Kind: api.StopFuel, Used: fuel}) {
				t.Errorf("%q by %d: %v, %v, %d", x, fuel, got, stop, e)
			}
		}
	}
	for _, x := range []string{"halt", "trap 5", "pop", "ret", "jump 0", "push 3"} {
		for _, pc := range []int{0, 1} {
			s := api.State{Pc: pc, Calls: []int{1, 0}}
			wantRun(t, of(t, x), s, 0, s, api.Stop{Kind: api.StopFuel})
		}
	}
	// The last of the fuel is enough to stop, and to fail.
	wantRun(t, of(t, "pop\nhalt"), with(1), 2, api.State{Pc: 1}, api.Stop{Kind: api.StopHalt, Used: 2})
	wantRun(t, of(t, "pop\ntrap 9"), with(1), 2, api.State{Pc: 2}, api.Stop{Kind: api.StopTrap, Trap: 9, Used: 2})
	wantRun(t, of(t, "pop\npop"), with(1), 2, api.State{Pc: 1}, api.Stop{Kind: api.StopFault, Used: 2})
	wantRun(t, of(t, "pop\npop"), with(1), 1, api.State{Pc: 1}, api.Stop{Kind: api.StopFuel, Used: 1})
	wantRun(t, of(t, "push 7"), api.State{}, 1, api.State{Pc: 1, Stack: []int{7}}, api.Stop{Kind: api.StopFuel, Used: 1})
	// Behind the last instruction there is none, which takes fuel and fails.
	wantRun(t, of(t, "push 7"), api.State{}, 2, api.State{Pc: 1, Stack: []int{7}}, api.Stop{Kind: api.StopFault, Used: 2})
	wantRun(t, of(t, "push 7"), api.State{Pc: 1, Stack: []int{9}, Calls: []int{0}}, 5, api.State{Pc: 1, Stack: []int{9}, Calls: []int{0}}, api.Stop{Kind: api.StopFault, Used: 1})
}

// Vm1: each operation with as many numbers as it takes, one fewer, and none.
func TestTakes(t *testing.T) {
	for op := 1; op <= 25; op++ {
		a := 0
		if op == api.Trap {
			a = 1
		}
		for n := range takes[op] {
			fails(t, op, a, api.State{Stack: upTo(n), Calls: []int{3, 2}})
		}
		// As many, and some more below them, which stay as they are.
		for _, below := range []int{0, 1, 5, 60} {
			n := below + takes[op]
			s := api.State{Stack: upTo(n), Calls: []int{3, 2}}
			m := blank(100)
			got, stop := runs(t, one(op, a), s, m, 1)
			if stop.Kind == api.StopFault || !slices.Equal(got.Stack[:below], upTo(below)) {
				t.Errorf("%d: %v, %v", op, got, stop)
			}
		}
	}
}

// Vm1: Push, Dup, Pop, Swap, and how many numbers there may be.
func TestArranged(t *testing.T) {
	for _, n := range edges {
		leaves(t, api.Push, n, nil, []int{n})
		leaves(t, api.Push, n, []int{4, 5}, []int{4, 5, n})
		leaves(t, api.Dup, 0, []int{4, n}, []int{4, n, n})
		leaves(t, api.Dup, 1, []int{n, 4}, []int{n, 4, n})
		leaves(t, api.Pop, 0, []int{n, 4}, []int{n})
		leaves(t, api.Pop, 0, []int{n}, nil)
		leaves(t, api.Swap, 0, []int{4, n, 5}, []int{4, 5, n})
		leaves(t, api.Swap, 0, []int{n, 5}, []int{5, n})
	}
	leaves(t, api.Push, 9, upTo(62), append(upTo(62), 9))
	leaves(t, api.Push, 9, upTo(63), append(upTo(63), 9))
	fails(t, api.Push, 9, with(upTo(64)...))
	for _, a := range []int{0, 1, 31, 62} {
		leaves(t, api.Dup, a, upTo(63), append(upTo(63), 63-a))
		fails(t, api.Dup, a, with(upTo(64)...))
	}
	fails(t, api.Dup, 63, with(upTo(63)...))
	fails(t, api.Dup, 63, with(upTo(64)...))
	for a := range 63 {
		// The first number of all, and one that there is not.
		leaves(t, api.Dup, a, upTo(a+1), append(upTo(a+1), 1))
		fails(t, api.Dup, a, with(upTo(a)...))
	}
	fails(t, api.Dup, 5, api.State{})
	// What leaves no more than it takes is done on a full stack too.
	leaves(t, api.Swap, 0, upTo(64), append(upTo(62), 64, 63))
	leaves(t, api.Pop, 0, upTo(64), upTo(63))
	leaves(t, api.Add, 0, upTo(64), append(upTo(62), 127))
	leaves(t, api.Not, 0, upTo(64), append(upTo(63), 0))
}

// Vm1: what each operation makes of two numbers, in the document's own words.
func TestReckoned(t *testing.T) {
	for _, x := range []struct{ op, x, y, z int }{
		{api.Add, 2, 3, 5}, {api.Add, greatest, 1, least}, {api.Add, least, -1, greatest}, {api.Add, least, least, 0}, {api.Add, greatest, greatest, -2},
		{api.Sub, 2, 3, -1}, {api.Sub, 3, 2, 1}, {api.Sub, least, 1, greatest}, {api.Sub, 0, least, least}, {api.Sub, greatest, -1, least}, {api.Sub, -1, greatest, least},
		{api.Mul, -4, 3, -12}, {api.Mul, 1 << 32, 1 << 32, 0}, {api.Mul, greatest, 2, -2}, {api.Mul, least, -1, least}, {api.Mul, greatest, greatest, 1}, {api.Mul, 1 << 62, 2, least},
		{api.And, 12, 10, 8}, {api.And, -1, 7, 7}, {api.And, least, greatest, 0},
		{api.Or, 12, 10, 14}, {api.Or, -8, 7, -1}, {api.Or, least, greatest, -1},
		{api.Xor, 12, 10, 6}, {api.Xor, -1, 7, -8}, {api.Xor, least, -1, greatest},
		{api.Div, 7, 2, 3}, {api.Div, -7, 2, -3}, {api.Div, 7, -2, -3}, {api.Div, -7, -2, 3}, {api.Div, least, -1, least}, {api.Div, least, 1, least}, {api.Div, 0, 5, 0}, {api.Div, greatest, least, 0}, {api.Div, least, greatest, -1}, {api.Div, 3, 7, 0}, {api.Div, -3, 7, 0},
		{api.Rem, 7, 2, 1}, {api.Rem, -7, 2, -1}, {api.Rem, 7, -2, 1}, {api.Rem, -7, -2, -1}, {api.Rem, least, -1, 0}, {api.Rem, least, 1, 0}, {api.Rem, 0, 5, 0}, {api.Rem, greatest, least, greatest}, {api.Rem, least, greatest, -1}, {api.Rem, -9, 2, -1}, {api.Rem, -6, 3, 0},
		{api.Shl, 5, 0, 5}, {api.Shl, 5, 1, 10}, {api.Shl, 5, 63, least}, {api.Shl, 4, 63, 0}, {api.Shl, 5, 64, 5}, {api.Shl, 5, 65, 10}, {api.Shl, 5, -1, least}, {api.Shl, 5, -63, 10}, {api.Shl, 5, -64, 5}, {api.Shl, -5, 1, -10}, {api.Shl, -1, 63, least}, {api.Shl, least, 1, 0}, {api.Shl, greatest, 1, -2}, {api.Shl, 5, least, 5}, {api.Shl, 5, greatest, least}, {api.Shl, 5, 1 << 32, 5},
		{api.Shr, 5, 0, 5}, {api.Shr, 5, 1, 2}, {api.Shr, 5, 63, 0}, {api.Shr, 5, 64, 5}, {api.Shr, 5, 65, 2}, {api.Shr, 5, -1, 0}, {api.Shr, 5, -63, 2}, {api.Shr, -5, 0, -5}, {api.Shr, -5, 1, -3}, {api.Shr, -5, 63, -1}, {api.Shr, -5, 64, -5}, {api.Shr, -5, -1, -1}, {api.Shr, least, 63, -1}, {api.Shr, greatest, 62, 1}, {api.Shr, greatest, 63, 0}, {api.Shr, -1, 1, -1}, {api.Shr, 5, least, 5}, {api.Shr, 5, greatest, 0},
		{api.Eq, 5, 5, 1}, {api.Eq, 5, 6, 0}, {api.Eq, 6, 5, 0}, {api.Eq, least, least, 1}, {api.Eq, greatest, greatest, 1}, {api.Eq, least, greatest, 0}, {api.Eq, 0, 1 << 32, 0}, {api.Eq, -1, 1, 0},
		{api.Less, 5, 5, 0}, {api.Less, 5, 6, 1}, {api.Less, 6, 5, 0}, {api.Less, least, greatest, 1}, {api.Less, greatest, least, 0}, {api.Less, least, least, 0}, {api.Less, greatest, greatest, 0}, {api.Less, -1, 0, 1}, {api.Less, 0, -1, 0}, {api.Less, least, 0, 1},
	} {
		leaves(t, x.op, 0, []int{x.x, x.y}, []int{x.z})
		leaves(t, x.op, 0, []int{8, 9, x.x, x.y}, []int{8, 9, x.z})
	}
	for _, x := range []struct{ y, z int }{{0, 1}, {1, 0}, {-1, 0}, {2, 0}, {256, 0}, {1 << 32, 0}, {least, 0}, {greatest, 0}} {
		leaves(t, api.Not, 0, []int{x.y}, []int{x.z})
		leaves(t, api.Not, 0, []int{8, x.y}, []int{8, x.z})
	}
	for _, x := range append(slices.Clone(edges), 5) {
		fails(t, api.Div, 0, with(x, 0))
		fails(t, api.Rem, 0, with(x, 0))
		fails(t, api.Div, 0, with(4, x, 0))
		fails(t, api.Rem, 0, with(4, x, 0))
	}
}

// Vm1: each operation on two numbers, at each pair of edges, against great
// numbers.
func TestReckonedEdges(t *testing.T) {
	for op := api.Add; op <= api.Less; op++ {
		for _, x := range edges {
			for _, y := range edges {
				if z, ok := made(op, x, y); ok {
					leaves(t, op, 0, []int{x, y}, []int{z})
				} else {
					fails(t, op, 0, with(x, y))
				}
			}
		}
	}
}

// Vm1: Jump, If.
func TestJumps(t *testing.T) {
	for a := range 4 {
		for pc := range 4 {
			l := slices.Repeat([]api.Instr{{Op: api.Halt}}, 4)
			l[pc] = api.Instr{Op: api.Jump, A: a}
			s := api.State{Pc: pc, Stack: []int{5, 0}, Calls: []int{4, 0}}
			want := like(s)
			want.Pc = a
			wantRun(t, l, s, 1, want, api.Stop{Kind: api.StopFuel, Used: 1})
			l[pc].Op = api.If
			for _, y := range []int{1, -1, 2, 256, 1 << 32, least, greatest} {
				s.Stack, want.Stack = []int{5, y}, []int{5}
				wantRun(t, l, s, 1, want, api.Stop{Kind: api.StopFuel, Used: 1})
			}
			s.Stack, want.Pc = []int{5, 0}, pc+1
			wantRun(t, l, s, 1, want, api.Stop{Kind: api.StopFuel, Used: 1})
			fails(t, api.If, a, api.State{Calls: []int{1}})
		}
	}
}

// Vm1: Call and Ret, and how many calls may go on.
func TestCalls(t *testing.T) {
	l := of(t, "halt\ncall 3\nhalt\nret")
	fuel := func(n int) api.Stop { return api.Stop{Kind: api.StopFuel, Used: n} }
	wantRun(t, l, api.State{Pc: 1, Stack: []int{7}}, 1, api.State{Pc: 3, Stack: []int{7}, Calls: []int{2}}, fuel(1))
	wantRun(t, l, api.State{Pc: 1, Stack: []int{7}}, 2, api.State{Pc: 2, Stack: []int{7}}, fuel(2))
	wantRun(t, l, api.State{Pc: 3, Calls: []int{0, 4, 1}}, 1, api.State{Pc: 1, Calls: []int{0, 4}}, fuel(1))
	for _, pc := range []int{0, 1, 2, 3, 4} {
		wantRun(t, l, api.State{Pc: 3, Calls: []int{pc}}, 1, api.State{Pc: pc}, fuel(1))
	}
	// A call by the last instruction comes back behind it, where there is none.
	last := of(t, "ret\ncall 0")
	wantRun(t, last, api.State{Pc: 1}, 1, api.State{Calls: []int{2}}, fuel(1))
	wantRun(t, last, api.State{Pc: 1}, 2, api.State{Pc: 2}, fuel(2))
	wantRun(t, last, api.State{Pc: 1}, 9, api.State{Pc: 2}, api.Stop{Kind: api.StopFault, Used: 3})
	ones := func(n int) []int { return slices.Repeat([]int{1}, n) }
	wantRun(t, l, api.State{Pc: 1, Calls: ones(30)}, 1, api.State{Pc: 3, Calls: append(ones(30), 2)}, fuel(1))
	wantRun(t, l, api.State{Pc: 1, Calls: ones(31)}, 1, api.State{Pc: 3, Calls: append(ones(31), 2)}, fuel(1))
	fails(t, api.Call, 3, api.State{Calls: ones(32)})
	fails(t, api.Call, 0, api.State{Stack: upTo(64), Calls: ones(32)})
	fails(t, api.Ret, 0, api.State{})
	fails(t, api.Ret, 0, api.State{Stack: upTo(64)})
	// One that calls itself without end.
	wantRun(t, of(t, "call 0"), api.State{}, 32, api.State{Calls: ones(32)}, fuel(32))
	wantRun(t, of(t, "call 0"), api.State{}, 100, api.State{Calls: ones(32)}, api.Stop{Kind: api.StopFault, Used: 33})
	// On a full stack of numbers both are done.
	wantRun(t, l, api.State{Pc: 1, Stack: upTo(64)}, 2, api.State{Pc: 2, Stack: upTo(64)}, fuel(2))
}

// Vm1: Trap and Halt.
func TestStops(t *testing.T) {
	for a := 1; a <= 99; a++ {
		for _, fuel := range []int{1, 2, api.MaxFuel} {
			l := []api.Instr{{Op: api.Trap, A: a}, {Op: api.Halt}, {Op: api.Trap, A: a}}
			s := api.State{Stack: []int{1, 2}, Calls: []int{3}}
			wantRun(t, l, s, fuel, api.State{Pc: 1, Stack: s.Stack, Calls: s.Calls}, api.Stop{Kind: api.StopTrap, Trap: a, Used: 1})
			s.Pc = 2
			wantRun(t, l, s, fuel, api.State{Pc: 3, Stack: s.Stack, Calls: s.Calls}, api.Stop{Kind: api.StopTrap, Trap: a, Used: 1})
			s.Pc = 1
			wantRun(t, l, s, fuel, s, api.Stop{Kind: api.StopHalt, Used: 1})
		}
	}
	full := api.State{Stack: upTo(64), Calls: slices.Repeat([]int{1}, 32)}
	wantRun(t, of(t, "halt"), full, 9, full, api.Stop{Kind: api.StopHalt, Used: 1})
	// Trapped, it goes on where it stands; halted, it halts again.
	l := of(t, "trap 3\npush 8\ntrap 4\nhalt")
	s := api.State{}
	for _, want := range []api.Stop{{Kind: api.StopTrap, Trap: 3, Used: 1}, {Kind: api.StopTrap, Trap: 4, Used: 2}, {Kind: api.StopHalt, Used: 1}, {Kind: api.StopHalt, Used: 1}} {
		got, stop, e := vm.Run(l, s, blank(0), 50)
		if stop != want || e != api.OK {
			t.Fatal(got, stop, e)
		}
		s = got
	}
	if !same(s, api.State{Pc: 3, Stack: []int{8}}) {
		t.Error(s)
	}
}

// Vm1: whole programs, as somebody would write them.
func TestPrograms(t *testing.T) {
	sum := of(t, "push 0\npush 100\ndup 0\nnot\nif 12\nswap\ndup 1\nadd\nswap\npush -1\nadd\njump 2\npop\nhalt")
	got, stop, e := vm.Run(sum, api.State{}, blank(0), api.MaxFuel)
	if e != api.OK || stop.Kind != api.StopHalt || !same(got, api.State{Pc: 13, Stack: []int{5050}}) {
		t.Error(got, stop, e)
	}
	// A text up to its nought, laid elsewhere; it leaves how long it is.
	laid := of(t, "push 0\ndup 0\nload\ndup 0\nnot\nif 13\ndup 1\npush 10\nadd\nstore\npush 1\nadd\njump 1\npop\nhalt")
	m := blank(20)
	copy(m.bytes, "hello")
	got, stop, e = vm.Run(laid, api.State{}, m, api.MaxFuel)
	if e != api.OK || stop.Kind != api.StopHalt || !same(got, api.State{Pc: 14, Stack: []int{5}}) || string(m.bytes) != "hello\x00\x00\x00\x00\x00hello\x00\x00\x00\x00\x00" {
		t.Errorf("%v, %v, %d, %q", got, stop, e, m.bytes)
	}
	// A product of 1 to n, by calls within calls, as many as there may be.
	product := of(t, "push 0\ncall 3\nhalt\ndup 0\nif 8\npop\npush 1\nret\ndup 0\npush -1\nadd\ncall 3\nmul\nret")
	want := 1
	for n := range 40 {
		product[0].A = n
		if n > 0 {
			want, _ = made(api.Mul, want, n)
		}
		got, stop, e := vm.Run(product, api.State{}, blank(0), 1000)
		if n <= 31 && (e != api.OK || stop.Kind != api.StopHalt || !same(got, api.State{Pc: 2, Stack: []int{want}})) {
			t.Error(n, got, stop, e, want)
		}
		if n > 31 && (e != api.OK || stop.Kind != api.StopFault || got.Pc != 11 || len(got.Calls) != 32) {
			t.Error(n, got, stop, e)
		}
	}
}
