package vm

import (
	"cloister/api"
	"slices"
)

// effect is how many numbers an operation takes off the stack, and how many it
// leaves there.
type effect struct {
	takes  int
	leaves int
}

// effects stand by the operations' numbers, from Push on. (Dup's numbers are A
// more.)
var effects = [...]effect{
	{0, 1}, // Push
	{1, 0}, // Pop
	{1, 2}, // Dup
	{2, 2}, // Swap
	{2, 1}, // Add
	{2, 1}, // Sub
	{2, 1}, // Mul
	{2, 1}, // Div
	{2, 1}, // Rem
	{2, 1}, // And
	{2, 1}, // Or
	{2, 1}, // Xor
	{2, 1}, // Shl
	{2, 1}, // Shr
	{2, 1}, // Eq
	{2, 1}, // Less
	{1, 1}, // Not
	{1, 1}, // Load
	{2, 0}, // Store
	{0, 0}, // Jump
	{1, 0}, // If
	{0, 0}, // Call
	{0, 0}, // Ret
	{0, 0}, // Trap
	{0, 0}, // Halt
}

// machine is what one run goes on with.
type machine struct {
	code   []api.Instr
	memory Memory
	pc     int
	stack  []int
	calls  []int
}

// newMachine is a machine of instructions, a state and a memory that may be. The
// lists are its own: a memory is handed in, and could change those of the caller
// while the machine runs.
func newMachine(code []api.Instr, s api.State, m Memory) *machine {
	return &machine{code: fresh(code), memory: m, pc: s.Pc, stack: fresh(s.Stack), calls: fresh(s.Calls)}
}

// state is how the machine stands. What was taken off its lists is cut away.
func (v *machine) state() api.State {
	return api.State{Pc: v.pc, Stack: slices.Clip(v.stack), Calls: slices.Clip(v.calls)}
}

// run does instructions, till the fuel is spent or one ends the run.
func (v *machine) run(fuel int) api.Stop {
	for before := range fuel {
		if stop := v.step(); stop.Kind != 0 {
			stop.Used = before + 1
			return stop
		}
	}
	return api.Stop{Kind: api.StopFuel, Used: fuel}
}

// step does the next instruction, and tells how it ends the run: of no kind, if
// it does not.
func (v *machine) step() api.Stop {
	if v.pc == len(v.code) {
		return api.Stop{Kind: api.StopFault}
	}
	i := v.code[v.pc]
	if !v.fits(i) || !v.do(i) {
		return api.Stop{Kind: api.StopFault}
	}
	switch i.Op {
	case api.Trap:
		return api.Stop{Kind: api.StopTrap, Trap: i.A}
	case api.Halt:
		return api.Stop{Kind: api.StopHalt}
	}
	return api.Stop{}
}

// fits tells whether the stack has the numbers that an instruction takes, and
// room for those that it leaves.
func (v *machine) fits(i api.Instr) bool {
	e := effects[i.Op-api.Push]
	if i.Op == api.Dup {
		e.takes += i.A
		e.leaves += i.A
	}
	rest := len(v.stack) - e.takes
	return rest >= 0 && rest+e.leaves <= api.MaxStack
}

// do does an instruction that fits; false, if it fails: nothing is changed then.
func (v *machine) do(i api.Instr) bool {
	switch i.Op {
	case api.Push, api.Pop, api.Dup, api.Swap:
		v.arrange(i)
	case api.Load, api.Store:
		if !v.remember(i.Op) {
			return false
		}
	case api.Jump, api.If, api.Call, api.Ret, api.Halt:
		return v.turn(i)
	case api.Not:
		v.put(1, truth(v.last(0) == 0))
	case api.Trap:
		// What it asks for is done by whoever runs the machine.
	default:
		z, ok := reckon(i.Op, v.last(1), v.last(0))
		if !ok {
			return false
		}
		v.put(2, z)
	}
	v.pc++
	return true
}

// arrange does what puts, takes off or moves numbers as they are.
func (v *machine) arrange(i api.Instr) {
	switch i.Op {
	case api.Push:
		v.put(0, i.A)
	case api.Pop:
		v.put(1)
	case api.Dup:
		v.put(0, v.last(i.A))
	case api.Swap:
		v.put(2, v.last(0), v.last(1))
	}
}

// remember loads a byte, or stores one; false, if the memory does not let it.
func (v *machine) remember(op int) bool {
	if op == api.Load {
		b, ok := load(v.memory, v.last(0))
		if ok {
			v.put(1, int(b))
		}
		return ok
	}
	ok := store(v.memory, v.last(0), byte(v.last(1)))
	if ok {
		v.put(2)
	}
	return ok
}

// turn does what names the next instruction; false, if it fails.
func (v *machine) turn(i api.Instr) bool {
	switch i.Op {
	case api.Jump:
		v.pc = i.A
	case api.If:
		y := v.last(0)
		v.put(1)
		v.pc++
		if y != 0 {
			v.pc = i.A
		}
	case api.Call:
		if len(v.calls) == api.MaxCalls {
			return false
		}
		v.calls = append(v.calls, v.pc+1)
		v.pc = i.A
	case api.Ret:
		k := len(v.calls) - 1
		if k < 0 {
			return false
		}
		v.pc = v.calls[k]
		v.calls = v.calls[:k]
	}
	return true
}

// last is the number so far below the stack's last one.
func (v *machine) last(below int) int {
	return v.stack[len(v.stack)-1-below]
}

// put takes so many numbers off the stack, and puts others on it.
func (v *machine) put(takes int, numbers ...int) {
	v.stack = append(v.stack[:len(v.stack)-takes], numbers...)
}

// load asks a memory for a byte. One that panics does not have it.
func load(m Memory, at int) (b byte, ok bool) {
	defer func() { recover() }()
	return m.Load(at)
}

// store tells a memory a byte. One that panics does not take it.
func store(m Memory, at int, b byte) (ok bool) {
	defer func() { recover() }()
	return m.Store(at, b)
}
