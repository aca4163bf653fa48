package vm_test

import (
	"cloister/api"
	"cloister/vm"
	"fmt"
	"math"
	"math/big"
	"math/rand"
	"slices"
	"testing"
)

// takes are how many numbers each operation takes (Dup's are A more), and room
// is for how many more than there were it needs some: the document's table told
// by columns.
var (
	takes = [26]int{
		api.Push: 0, api.Dup: 1, api.Pop: 1, api.Swap: 2,
		api.Add: 2, api.Sub: 2, api.Mul: 2, api.And: 2, api.Or: 2, api.Xor: 2,
		api.Div: 2, api.Rem: 2, api.Shl: 2, api.Shr: 2, api.Eq: 2, api.Less: 2,
		api.Not: 1, api.Load: 1, api.Store: 2,
		api.Jump: 0, api.If: 1, api.Call: 0, api.Ret: 0, api.Trap: 0, api.Halt: 0,
	}
	room = [26]int{api.Push: 1, api.Dup: 1}
)

// round is a great number as one of 64 bits.
func round(n *big.Int) int {
	low := new(big.Int).And(n, new(big.Int).SetUint64(math.MaxUint64))
	return int(low.Uint64())
}

// made is what an operation makes of x and y, told by great numbers; false, if
// it fails.
func made(op, x, y int) (int, bool) {
	a, b, z := big.NewInt(int64(x)), big.NewInt(int64(y)), new(big.Int)
	by := uint(((y % 64) + 64) % 64)
	switch op {
	case api.Add:
		z.Add(a, b)
	case api.Sub:
		z.Sub(a, b)
	case api.Mul:
		z.Mul(a, b)
	case api.And:
		z.And(a, b)
	case api.Or:
		z.Or(a, b)
	case api.Xor:
		z.Xor(a, b)
	case api.Div, api.Rem:
		if y == 0 {
			return 0, false
		}
		left := new(big.Int)
		z.QuoRem(a, b, left)
		if op == api.Rem {
			z = left
		}
	case api.Shl:
		z.Mul(a, new(big.Int).Lsh(big.NewInt(1), by))
	case api.Shr:
		z.Div(a, new(big.Int).Lsh(big.NewInt(1), by))
	case api.Eq:
		z.SetInt64(int64(1 - a.Cmp(b)*a.Cmp(b)))
	case api.Less:
		z.SetInt64(int64(max(0, -a.Cmp(b))))
	}
	return round(z), true
}

// like is a state in memory of its own.
func like(s api.State) api.State {
	return api.State{Pc: s.Pc, Stack: slices.Clone(s.Stack), Calls: slices.Clone(s.Calls)}
}

// same tells whether two states are; nil and the empty list are the same.
func same(a, b api.State) bool {
	return a.Pc == b.Pc && slices.Equal(a.Stack, b.Stack) && slices.Equal(a.Calls, b.Calls)
}

// done is what the document says of one instruction on a state, told another way
// than the program does: the state behind it, and a kind of stop; false, if it
// fails.
func done(code []api.Instr, s api.State, m vm.Memory) (after api.State, stop int, ok bool) {
	if s.Pc == len(code) {
		return s, 0, false
	}
	i, n := code[s.Pc], len(s.Stack)
	if need := takes[i.Op]; n < need || i.Op == api.Dup && n < need+i.A || n+room[i.Op] > 64 {
		return s, 0, false
	}
	after = like(s)
	after.Pc++
	var x, y int
	if takes[i.Op] > 0 {
		y = s.Stack[n-1]
	}
	if takes[i.Op] > 1 {
		x = s.Stack[n-2]
	}
	// rest is the stack without x and y, as far as they are taken.
	rest := slices.Clone(s.Stack[:n-takes[i.Op]])
	ok = true
	switch i.Op {
	case api.Push:
		rest = append(rest, i.A)
	case api.Pop, api.Jump, api.Trap, api.Halt:
	case api.Dup:
		rest = append(rest, y, s.Stack[n-1-i.A])
	case api.Swap:
		rest = append(rest, y, x)
	case api.Not:
		z, _ := made(api.Eq, y, 0)
		rest = append(rest, z)
	case api.Load:
		var b byte
		b, ok = m.Load(y)
		rest = append(rest, int(b))
	case api.Store:
		ok = m.Store(y, byte(((x%256)+256)%256))
	case api.Call:
		ok = len(s.Calls) < 32
		after.Calls = append(after.Calls, s.Pc+1)
	case api.Ret:
		ok = len(s.Calls) > 0
		if ok {
			after.Pc = s.Calls[len(s.Calls)-1]
			after.Calls = after.Calls[:len(s.Calls)-1]
		}
	case api.If:
	default:
		var z int
		z, ok = made(i.Op, x, y)
		rest = append(rest, z)
	}
	if !ok {
		return s, 0, false
	}
	after.Stack = rest
	switch {
	case i.Op == api.Jump, i.Op == api.Call, i.Op == api.If && y != 0:
		after.Pc = i.A
	case i.Op == api.Trap:
		stop = api.StopTrap
	case i.Op == api.Halt:
		stop = api.StopHalt
		after.Pc = s.Pc
	}
	return after, stop, true
}

// told is what the document says of a run that is not refused.
func told(code []api.Instr, s api.State, m vm.Memory, fuel int) (api.State, api.Stop) {
	used := 0
	for used < fuel {
		after, stop, ok := done(code, s, m)
		used++
		if !ok {
			return s, api.Stop{Kind: api.StopFault, Used: used}
		}
		trap := 0
		if stop == api.StopTrap {
			trap = code[s.Pc].A
		}
		s = after
		if stop != 0 {
			return s, api.Stop{Kind: stop, Trap: trap, Used: used}
		}
	}
	return s, api.Stop{Kind: api.StopFuel, Used: used}
}

// book is a memory of some bytes, from a place on, that writes down what it is
// asked and told, and what it answers.
type book struct {
	from  int
	bytes []byte
	notes []string
}

func (b *book) has(at int) bool {
	return at >= b.from && at-b.from < len(b.bytes)
}

func (b *book) Load(at int) (byte, bool) {
	if !b.has(at) {
		b.notes = append(b.notes, fmt.Sprintf("load %d: none", at))
		// What is answered beside a false is not to be read.
		return 77, false
	}
	x := b.bytes[at-b.from]
	b.notes = append(b.notes, fmt.Sprintf("load %d: %d", at, x))
	return x, true
}

func (b *book) Store(at int, x byte) bool {
	b.notes = append(b.notes, fmt.Sprintf("store %d: %d, %v", at, x, b.has(at)))
	if !b.has(at) {
		return false
	}
	b.bytes[at-b.from] = x
	return true
}

func (b *book) copy() *book {
	return &book{from: b.from, bytes: slices.Clone(b.bytes), notes: slices.Clone(b.notes)}
}

func (b *book) equal(c *book) bool {
	return b.from == c.from && slices.Equal(b.bytes, c.bytes) && slices.Equal(b.notes, c.notes)
}

// blank is a memory of so many noughts.
func blank(n int) *book {
	return &book{bytes: make([]byte, n)}
}

// shown is something, cut off where it is long.
func shown(x any) string {
	return fmt.Sprintf("%.400s", fmt.Sprint(x))
}

// runs tells whether Run answers as the document says, and asks and tells the
// memory the same.
func runs(t *testing.T, code []api.Instr, s api.State, m *book, fuel int) (api.State, api.Stop) {
	t.Helper()
	other := m.copy()
	want, wantStop := told(code, like(s), other, fuel)
	got, stop, e := vm.Run(code, s, m, fuel)
	if !same(got, want) || stop != wantStop || e != api.OK {
		t.Fatalf("%s, %s by %d: %s, %v, %d, not %s, %v", shown(code), shown(s), fuel, shown(got), stop, e, shown(want), wantStop)
	}
	if !m.equal(other) {
		t.Fatalf("%s, %s by %d: the memory is asked %s, not %s", shown(code), shown(s), fuel, shown(m.notes), shown(other.notes))
	}
	return got, stop
}

// drawnInstr is some instruction that may be, among so many.
func drawnInstr(from *rand.Rand, count int) api.Instr {
	i := api.Instr{Op: 1 + from.Intn(25)}
	switch i.Op {
	case api.Push:
		i.A = drawnNumber(from)
	case api.Dup:
		i.A = from.Intn(1 + from.Intn(64))
	case api.Jump, api.If, api.Call:
		i.A = from.Intn(count)
	case api.Trap:
		i.A = 1 + from.Intn(99)
	}
	return i
}

// edges are numbers at which something may go round, or be cut.
var edges = []int{math.MinInt, math.MinInt + 1, -1 << 32, -1 << 31, -257, -256, -255, -128, -65, -64, -63, -2, -1, 0, 1, 2, 3, 7, 62, 63, 64, 65, 127, 128, 255, 256, 257, 1<<31 - 1, 1 << 31, 1 << 32, math.MaxInt - 1, math.MaxInt}

// drawnNumber is some number, often a small one.
func drawnNumber(from *rand.Rand) int {
	switch from.Intn(4) {
	case 0:
		return edges[from.Intn(len(edges))]
	case 1:
		return int(from.Uint64())
	default:
		return from.Intn(20) - 2
	}
}

// drawnNumbers are so many at the most.
func drawnNumbers(from *rand.Rand, most int) []int {
	out := make([]int, from.Intn(most+1))
	for i := range out {
		out[i] = drawnNumber(from)
	}
	return out
}

// drawnState is one that may be, for so many instructions.
func drawnState(from *rand.Rand, count int) api.State {
	s := api.State{Pc: from.Intn(count + 1), Stack: drawnNumbers(from, 64)}
	for range from.Intn(33) {
		s.Calls = append(s.Calls, from.Intn(count+1))
	}
	return s
}

// drawnCode are so many instructions, and some memory for them.
func drawnCode(from *rand.Rand, count int) ([]api.Instr, *book) {
	l := make([]api.Instr, count)
	for k := range l {
		l[k] = drawnInstr(from, count)
		if l[k].Op >= api.Trap && from.Intn(3) > 0 {
			l[k] = api.Instr{Op: api.Push, A: drawnNumber(from)}
		}
	}
	m := blank(from.Intn(20))
	from.Read(m.bytes)
	return l, m
}

// Vm1 on instructions and states that are drawn, at each end of a run.
func TestDrawn(t *testing.T) {
	from := rand.New(rand.NewSource(14))
	var ends [5]int
	for range 60000 {
		l, m := drawnCode(from, 1+from.Intn(30))
		s := api.State{}
		if from.Intn(2) == 0 {
			s = drawnState(from, len(l))
		}
		_, stop := runs(t, l, s, m, from.Intn(200))
		ends[stop.Kind]++
	}
	if ends[0] != 0 || slices.Min(ends[1:]) < 1000 {
		t.Error(ends)
	}
}

// Vm1 on each operation with each number of numbers, Calls and A that counts,
// and on numbers that are drawn.
func TestEachDrawn(t *testing.T) {
	from := rand.New(rand.NewSource(28))
	for range 40 {
		for op := 1; op <= 25; op++ {
			for n := range 65 {
				l := []api.Instr{drawnInstr(from, 3), drawnInstr(from, 3), drawnInstr(from, 3)}
				for l[1].Op != op {
					l[1] = drawnInstr(from, 3)
				}
				s := drawnState(from, 3)
				s.Pc = 1
				s.Stack = s.Stack[:0]
				for range n {
					s.Stack = append(s.Stack, drawnNumber(from))
				}
				runs(t, l, s, blank(9), 1)
			}
		}
	}
}
