package code_test

import (
	"cloister/api"
	"cloister/code"
	"fmt"
	"math"
	"math/rand"
	"slices"
	"strings"
	"sync"
	"testing"
)

// names are the document's, from Push on.
const names = "push pop dup swap add sub mul div rem and or xor shl shr eq less not load store jump if call ret trap halt"

// withA are the names behind which a number stands.
const withA = " push dup jump if call trap "

// ops are the operations' numbers and names.
func ops(take func(op int, name string)) {
	for k, name := range strings.Fields(names) {
		take(1+k, name)
	}
}

// hasA tells whether a number stands behind a name.
func hasA(name string) bool {
	return strings.Contains(withA, " "+name+" ")
}

func in(op, a int) api.Instr {
	return api.Instr{Op: op, A: a}
}

// many are so many instructions.
func many(n int, i api.Instr) []api.Instr {
	return slices.Repeat([]api.Instr{i}, n)
}

// among are so many instructions of which one, at a place, is that one.
func among(n, at int, i api.Instr) []api.Instr {
	out := many(n, in(api.Halt, 0))
	out[at] = i
	return out
}

// shown is a text, or instructions, cut off where they are long.
func shown(x any) string {
	return fmt.Sprintf("%.300q", fmt.Sprint(x))
}

// rightly is what the document says of which instructions may be, told another
// way than the program does.
func rightly(i api.Instr, count int) bool {
	bounds := map[string][2]int{
		"push": {math.MinInt, math.MaxInt},
		"dup":  {0, 63},
		"jump": {0, count - 1},
		"if":   {0, count - 1},
		"call": {0, count - 1},
		"trap": {1, 99},
	}
	found := false
	ops(func(op int, name string) {
		b := bounds[name]
		found = found || op == i.Op && i.A >= b[0] && i.A <= b[1]
	})
	return found
}

// checked is what the document says of Check.
func checked(l []api.Instr) (api.Errno, int) {
	if len(l) < 1 || len(l) > 1024 {
		return api.ErrFull, 0
	}
	if k := slices.IndexFunc(l, func(i api.Instr) bool { return !rightly(i, len(l)) }); k >= 0 {
		return api.ErrCode, k
	}
	return api.OK, 0
}

// printed is what the document says of Print.
func printed(l []api.Instr) (string, api.Errno) {
	if e, _ := checked(l); e != api.OK {
		return "", e
	}
	var out strings.Builder
	for _, i := range l {
		name := strings.Fields(names)[i.Op-1]
		if hasA(name) {
			fmt.Fprintf(&out, "%s %d\n", name, i.A)
		} else {
			fmt.Fprintf(&out, "%s\n", name)
		}
	}
	return out.String(), api.OK
}

// wantCheck tells whether Check and Print answer so.
func wantCheck(t *testing.T, l []api.Instr, want api.Errno, at int) {
	t.Helper()
	if e, k := code.Check(l); e != want || k != at {
		t.Errorf("Check of %d, %s: %d, %d, not %d, %d", len(l), shown(l), e, k, want, at)
	}
	s, e := code.Print(l)
	if e != want || (want != api.OK && s != "") {
		t.Errorf("Print of %d, %s: %s, %d, not %d", len(l), shown(l), shown(s), e, want)
	}
}

// Co1: how many there may be, and that this counts ahead of what they are.
func TestCheckCount(t *testing.T) {
	halt, wrong := in(api.Halt, 0), in(api.Halt, 1)
	wantCheck(t, nil, api.ErrFull, 0)
	wantCheck(t, []api.Instr{}, api.ErrFull, 0)
	for _, n := range []int{1, 2, 1023, 1024} {
		wantCheck(t, many(n, halt), api.OK, 0)
		wantCheck(t, many(n, wrong), api.ErrCode, 0)
		wantCheck(t, among(n, n-1, wrong), api.ErrCode, n-1)
	}
	for _, n := range []int{1025, 1026, 5000} {
		wantCheck(t, many(n, halt), api.ErrFull, 0)
		wantCheck(t, many(n, wrong), api.ErrFull, 0)
		wantCheck(t, among(n, n-1, wrong), api.ErrFull, 0)
		wantCheck(t, among(n, 3, in(0, 0)), api.ErrFull, 0)
	}
}

// Co1: each operation, and those that there are none of, with every A that is
// near an edge, at the first, an inner and the last place.
func TestCheckEach(t *testing.T) {
	numbers := []int{math.MinInt, math.MinInt + 1, -1 << 32, -1 << 31, -257, -100, -64, -2, -1, 0, 1, 2, 3, 4, 5, 6, 7, 62, 63, 64, 65, 98, 99, 100, 101, 255, 256, 1022, 1023, 1024, 1025, 1 << 31, 1 << 32, 1<<32 + 1, math.MaxInt - 1, math.MaxInt}
	operations := []int{math.MinInt, math.MinInt + 1, -1 << 32, -24, -1, 26, 27, 50, 255, 256, 257, 281, 1<<32 + 1, 1<<32 + 25, math.MaxInt - 1, math.MaxInt}
	for op := range 26 {
		operations = append(operations, op)
	}
	for _, op := range operations {
		for _, a := range numbers {
			for _, n := range []int{1, 2, 5, 64, 100, 1024} {
				for _, at := range []int{0, n / 2, n - 1} {
					want, k := api.OK, 0
					if !rightly(in(op, a), n) {
						want, k = api.ErrCode, at
					}
					wantCheck(t, among(n, at, in(op, a)), want, k)
				}
			}
		}
	}
}

// Co1: the document's edges, one by one, in its own numbers.
func TestCheckEdges(t *testing.T) {
	for _, x := range []struct {
		op, a, count int
		ok           bool
	}{
		{api.Push, math.MinInt64, 1, true}, {api.Push, math.MaxInt64, 1, true}, {api.Push, 0, 1, true}, {api.Push, -1, 1, true},
		{api.Dup, -1, 1, false}, {api.Dup, 0, 1, true}, {api.Dup, 63, 1, true}, {api.Dup, 64, 1024, false},
		{api.Jump, -1, 3, false}, {api.Jump, 0, 3, true}, {api.Jump, 2, 3, true}, {api.Jump, 3, 3, false}, {api.Jump, 1023, 1024, true}, {api.Jump, 1024, 1024, false}, {api.Jump, 0, 1, true}, {api.Jump, 1, 1, false},
		{api.If, -1, 3, false}, {api.If, 0, 3, true}, {api.If, 2, 3, true}, {api.If, 3, 3, false}, {api.If, 1023, 1024, true}, {api.If, 1024, 1024, false},
		{api.Call, -1, 3, false}, {api.Call, 0, 3, true}, {api.Call, 2, 3, true}, {api.Call, 3, 3, false}, {api.Call, 1023, 1024, true}, {api.Call, 1024, 1024, false},
		{api.Trap, 0, 1, false}, {api.Trap, 1, 1, true}, {api.Trap, 99, 1, true}, {api.Trap, 100, 1024, false}, {api.Trap, -1, 1, false},
		{0, 0, 1, false}, {26, 0, 1, false}, {-1, 0, 1, false}, {api.Push - 1, 5, 9, false}, {api.Halt + 1, 0, 9, false},
		{api.Pop, 0, 1, true}, {api.Pop, 1, 9, false}, {api.Ret, 0, 1, true}, {api.Ret, -1, 9, false}, {api.Halt, 0, 1, true}, {api.Halt, 1, 9, false},
	} {
		want := api.ErrCode
		if x.ok {
			want = api.OK
		}
		wantCheck(t, append([]api.Instr{in(x.op, x.a)}, many(x.count-1, in(api.Halt, 0))...), want, 0)
	}
}

// Co1, R2: of several that may not be, the first.
func TestCheckFirst(t *testing.T) {
	wrong := []api.Instr{in(0, 0), in(26, 0), in(api.Dup, -1), in(api.Jump, 8), in(api.If, -1), in(api.Call, 8), in(api.Trap, 0), in(api.Pop, 7)}
	for _, x := range wrong {
		for _, y := range wrong {
			for first := range 7 {
				for second := first + 1; second < 8; second++ {
					l := among(8, first, x)
					l[second] = y
					wantCheck(t, l, api.ErrCode, first)
				}
			}
		}
	}
}

// Co1: each operation's name, and none where there is no operation.
func TestName(t *testing.T) {
	count := 0
	ops(func(op int, name string) {
		count++
		if s, e := code.Name(op); s != name || e != api.OK {
			t.Errorf("%d: %q, %d, not %q", op, s, e, name)
		}
	})
	if count != 25 || api.Halt != 25 {
		t.Fatal(count, api.Halt)
	}
	for op := -300; op < 600; op++ {
		if s, e := code.Name(op); (op < 1 || op > 25) && (s != "" || e != api.ErrNone) {
			t.Errorf("%d: %q, %d", op, s, e)
		}
	}
	for _, op := range []int{math.MinInt, math.MinInt + 1, math.MinInt + 2, -1 << 32, 1<<32 + 1, 1<<32 + 25, math.MaxInt - 1, math.MaxInt} {
		if s, e := code.Name(op); s != "" || e != api.ErrNone {
			t.Errorf("%d: %q, %d", op, s, e)
		}
	}
	for name, op := range map[string]int{"push": api.Push, "less": api.Less, "jump": api.Jump, "if": api.If, "trap": api.Trap, "halt": api.Halt} {
		if s, _ := code.Name(op); s != name {
			t.Error(name, s)
		}
	}
}

// Co1, R5: each operation's line.
func TestPrintEach(t *testing.T) {
	ops(func(op int, name string) {
		want := name + "\n"
		i := in(op, 0)
		if hasA(name) {
			i.A = 1
			want = name + " 1\n"
		}
		wantPrint(t, []api.Instr{i, in(api.Halt, 0)}, want+"halt\n")
		wantPrint(t, []api.Instr{in(api.Halt, 0), i}, "halt\n"+want)
	})
	wantPrint(t, []api.Instr{in(api.Push, 5), in(api.Halt, 0)}, "push 5\nhalt\n")
	wantPrint(t, []api.Instr{in(api.Push, 0)}, "push 0\n")
	wantPrint(t, []api.Instr{in(api.Push, -1)}, "push -1\n")
	wantPrint(t, []api.Instr{in(api.Push, 10), in(api.Push, -100)}, "push 10\npush -100\n")
	wantPrint(t, []api.Instr{in(api.Push, math.MinInt64), in(api.Push, math.MaxInt64)}, "push -9223372036854775808\npush 9223372036854775807\n")
	wantPrint(t, []api.Instr{in(api.Dup, 0), in(api.Dup, 63)}, "dup 0\ndup 63\n")
	wantPrint(t, []api.Instr{in(api.Jump, 0), in(api.If, 2), in(api.Call, 1)}, "jump 0\nif 2\ncall 1\n")
	wantPrint(t, []api.Instr{in(api.Trap, 1), in(api.Trap, 99)}, "trap 1\ntrap 99\n")
	wantPrint(t, many(1024, in(api.Jump, 1023)), strings.Repeat("jump 1023\n", 1024))
}

func wantPrint(t *testing.T, l []api.Instr, want string) {
	t.Helper()
	if s, e := code.Print(l); s != want || e != api.OK {
		t.Errorf("%s: %s, %d, not %s", shown(l), shown(s), e, shown(want))
	}
}

// drawn are some instructions, most of which may be.
func drawn(from *rand.Rand, count int) []api.Instr {
	numbers := []int{math.MinInt, -1, 0, 1, 7, 63, 64, 99, 100, count - 1, count, math.MaxInt}
	var out []api.Instr
	for range count {
		i := in(1+from.Intn(25), from.Intn(count))
		if from.Intn(20) == 0 {
			i.A = numbers[from.Intn(len(numbers))]
		}
		if !rightly(i, count) && from.Intn(2*count) > 0 {
			i = in(api.Push, from.Int()>>from.Intn(63)-from.Int()>>from.Intn(63))
		}
		if from.Intn(20*count) == 0 {
			i.Op = from.Intn(60) - 20
		}
		out = append(out, i)
	}
	return out
}

// Co1 and Co3 on instructions that are drawn.
func TestDrawn(t *testing.T) {
	from := rand.New(rand.NewSource(13))
	var good, bad int
	for range 20000 {
		l := drawn(from, 1+from.Intn(30))
		e, at := checked(l)
		wantCheck(t, l, e, at)
		if e != api.OK {
			bad++
			continue
		}
		good++
		thereAndBack(t, l)
	}
	if good < 1000 || bad < 1000 {
		t.Error(good, bad)
	}
}

// thereAndBack: Parse of Print are the instructions (Co3).
func thereAndBack(t *testing.T, l []api.Instr) {
	t.Helper()
	want, _ := printed(l)
	wantPrint(t, l, want)
	if back, e, at := code.Parse(want); !slices.Equal(back, l) || e != api.OK || at != 0 {
		t.Errorf("%s is read as %s, %d, %d", shown(want), shown(back), e, at)
	}
}

// Co3 at the edges: each operation, the least and the greatest number, as many
// as there may be.
func TestThereAndBack(t *testing.T) {
	for _, a := range []int{math.MinInt, math.MinInt + 1, -1 << 32, -10, -1, 0, 1, 9, 10, 62, 63, 64, 98, 99, 100, 1023, 1 << 53, 999999999999999999, 1000000000000000000, math.MaxInt - 1, math.MaxInt} {
		for op := 1; op <= 25; op++ {
			for _, n := range []int{1, 2, 1024} {
				if rightly(in(op, a), n) {
					thereAndBack(t, among(n, n-1, in(op, a)))
				}
			}
		}
	}
	thereAndBack(t, many(1024, in(api.Push, math.MinInt)))
	from := rand.New(rand.NewSource(26))
	for range 20 {
		var l []api.Instr
		for len(l) < 1024 {
			if i := in(1+from.Intn(25), from.Intn(1024)); rightly(i, 1024) || rightly(in(i.Op, 0), 1024) {
				if !rightly(i, 1024) {
					i.A = 0
				}
				l = append(l, i)
			}
		}
		thereAndBack(t, l)
	}
}

// R3: what is handed in is not changed, nor read beyond its end, nor kept; what
// is handed out is nobody else's.
func TestMemory(t *testing.T) {
	right := []api.Instr{in(api.Push, 5), in(api.Jump, 2), in(api.Halt, 0)}
	for _, n := range []int{0, 1, 2, 3} {
		// Behind the end stands what may not be, and what a jump may not reach.
		room := append(slices.Clone(right[:n]), in(99, 99), in(api.Jump, 0), in(0, 0))
		before := slices.Clone(room)
		want, at := checked(right[:n])
		wantCheck(t, room[:n], want, at)
		text, _ := printed(right[:n])
		if s, _ := code.Print(room[:n]); s != text {
			t.Errorf("%q, not %q", s, text)
		}
		if !slices.Equal(room, before) {
			t.Error("an argument is changed:", room)
		}
	}
	// A text that was handed out stands, whatever happens to the instructions.
	l := slices.Clone(right)
	s, _ := code.Print(l)
	for i := range l {
		l[i] = in(api.Pop, 0)
	}
	if s != "push 5\njump 2\nhalt\n" {
		t.Errorf("%q", s)
	}
	// More than there may be, the room behind the end making them so.
	full := many(2000, in(api.Halt, 0))
	wantCheck(t, full[:1024], api.OK, 0)
	wantCheck(t, full[:1025], api.ErrFull, 0)
}

// R3, R4: no answer of Parse shares memory with another one or with what the
// package keeps, its spare room too.
func TestParseMemory(t *testing.T) {
	const text = "push 5\ndup 1\njump 2\n"
	want := []api.Instr{in(api.Push, 5), in(api.Dup, 1), in(api.Jump, 2)}
	var answers [][]api.Instr
	for range 5 {
		l, e, _ := code.Parse(text)
		if !slices.Equal(l, want) || e != api.OK {
			t.Fatal(l, e)
		}
		for _, other := range answers {
			for i := range other[:cap(other)] {
				other[:cap(other)][i] = in(-7, -7)
			}
		}
		if !slices.Equal(l, want) {
			t.Fatal("two answers share memory:", l)
		}
		answers = append(answers, l)
	}
	wantCheck(t, want, api.OK, 0)
	if s, e := code.Name(api.Push); s != "push" || e != api.OK {
		t.Error(s, e)
	}
	// Bytes that a text was made of are changed afterwards.
	raw := []byte(text)
	l, _, _ := code.Parse(string(raw))
	clear(raw)
	if !slices.Equal(l, want) {
		t.Error(l)
	}
}

// R4: many at one time answer as one alone does.
func TestTogether(t *testing.T) {
	var all sync.WaitGroup
	for k := range 16 {
		all.Go(func() {
			from := rand.New(rand.NewSource(int64(k)))
			for range 300 {
				l := drawn(from, 1+from.Intn(20))
				e, at := checked(l)
				if e2, at2 := code.Check(l); e2 != e || at2 != at {
					t.Error(e2, at2, e, at)
				}
				s, _ := code.Print(l)
				if want, _ := printed(l); s != want {
					t.Error(shown(s), shown(want))
				}
				if back, e2, _ := code.Parse(s); e == api.OK && (e2 != api.OK || !slices.Equal(back, l)) {
					t.Error(shown(s), e2)
				}
			}
		})
	}
	all.Wait()
}
