package ep_test

import (
	"cloister/api"
	"cloister/ep"
	"slices"
	"strings"
	"testing"
)

// The document's examples.
func TestExamples(t *testing.T) {
	x := of(t, "halt", "ab")
	if s, ok := x.p.Text(0, 3); s != "ab\x00" || !ok {
		t.Error(s, ok)
	}
	if !x.lay(255, "xy") {
		t.Error("Lay(255, xy)")
	}
	x.wantPages(0, 1)
	if x.lay(4095, "xy") {
		t.Error("Lay(4095, xy)")
	}
	x.wantPages(0, 1)
	x.wantBegin("in", 1, api.OK)
	x.wantBegin("in", 1, api.ErrFull)
}

// wrongCodes are instructions that may not be, and why.
func wrongCodes() map[api.Errno][][]api.Instr {
	halts := slices.Repeat([]api.Instr{{Op: api.Halt}}, 2000)
	bad := slices.Repeat([]api.Instr{{Op: -1}}, 2000)
	last := slices.Clone(halts[:1024])
	last[1023] = api.Instr{Op: api.Trap, A: 100}
	return map[api.Errno][][]api.Instr{
		api.ErrFull: {nil, {}, halts[:0], halts[:1025], halts, bad[:1025], bad},
		api.ErrCode: {{{}}, {{Op: -1}}, {{Op: 26}}, {{Op: api.Halt, A: 1}}, {{Op: api.Trap}}, {{Op: api.Trap, A: 100}}, {{Op: api.Jump, A: 1}}, {{Op: api.Dup, A: 64}}, bad[:1024], last, {{Op: api.Halt}, {Op: api.Call, A: -1}}},
	}
}

// Ep1: what Check refuses, ahead of ErrLong.
func TestNewRefused(t *testing.T) {
	for want, codes := range wrongCodes() {
		for _, l := range codes {
			for _, n := range []int{0, 1, 4096, 4097, 5000} {
				if p, e := ep.New(l, strings.Repeat("a", n)); p != nil || e != want {
					t.Errorf("%s, %d bytes: %v, %d, not %d", shown(l), n, p, e, want)
				}
			}
		}
	}
	halts := slices.Repeat([]api.Instr{{Op: api.Halt}}, 1024)
	for _, l := range [][]api.Instr{halts, halts[:1], {{Op: api.Push, A: least}, {Op: api.Jump, A: 1}}, {{Op: api.Trap, A: 99}}} {
		for _, n := range []int{4097, 4098, 8192, 65536, 1 << 20} {
			if p, e := ep.New(l, strings.Repeat("a", n)); p != nil || e != api.ErrLong {
				t.Errorf("%s, %d bytes: %v, %d", shown(l), n, p, e)
			}
		}
		for _, n := range []int{0, 1, 4095, 4096} {
			made(t, l, strings.Repeat("a", n)).is(none, "", 0)
		}
	}
}

// Ep1, Ep3: the memory is the image, and noughts behind it; none of its pages
// is its own.
func TestImage(t *testing.T) {
	all := make([]byte, 4096)
	for i := range all {
		all[i] = byte(1 + i%255)
	}
	for _, n := range []int{0, 1, 2, 254, 255, 256, 257, 511, 512, 513, 1000, 3839, 3840, 3841, 4094, 4095, 4096} {
		x := of(t, "halt", string(all[:n]))
		if s, ok := x.p.Text(0, 4096); !ok || s != string(all[:n])+strings.Repeat("\x00", 4096-n) {
			t.Errorf("%d bytes: %s, %v", n, shown(s), ok)
		}
		x.wantPages()
		x.is(none, "", 0)
	}
	// Whatever its bytes are, and however they are cut.
	for _, image := range []string{"\x00\x00", "\xff\xfe\x80", "é€\xf0\x9f", strings.Repeat("€", 1365), strings.Repeat("\x00", 4096)} {
		of(t, "halt", image).wantPages()
	}
}

// Ep1: what Begin takes and refuses, and in which order.
func TestBegin(t *testing.T) {
	texts := []int{0, 1, 65535, 65536}
	long := []int{65537, 65538, 1 << 20}
	fuels := []int{1, 2, 1<<20 - 1, 1 << 20}
	wrong := []int{least, -1 << 32, -1 << 20, -2, -1, 0, 1<<20 + 1, 1<<20 + 2, 1 << 32, 1<<32 + 1, greatest}
	for _, n := range texts {
		for _, fuel := range fuels {
			x := of(t, "push 1\ntrap 2\nhalt", "m")
			x.wantBegin(strings.Repeat("i", n), fuel, api.OK)
			x.is(goesOn, strings.Repeat("i", n), fuel)
		}
		for _, fuel := range wrong {
			x := of(t, "push 1\ntrap 2\nhalt", "m")
			x.wantBegin(strings.Repeat("i", n), fuel, api.ErrArg)
			x.is(none, "", 0)
		}
	}
	for _, n := range long {
		for _, fuel := range slices.Concat(fuels, wrong) {
			x := of(t, "push 1\ntrap 2\nhalt", "m")
			x.wantBegin(strings.Repeat("i", n), fuel, api.ErrLong)
			x.is(none, "", 0)
		}
	}
	// While one goes on, trapped or not, nothing else is looked at.
	for _, n := range append(texts, long...) {
		for _, fuel := range slices.Concat(fuels, wrong) {
			x := of(t, "push 1\ntrap 2\nhalt", "m")
			x.begin("first", 9)
			x.wantBegin(strings.Repeat("i", n), fuel, api.ErrFull)
			x.is(goesOn, "first", 9)
			x.wantRun(1, api.StopFuel, 0, 1)
			x.wantBegin(strings.Repeat("i", n), fuel, api.ErrFull)
			x.is(goesOn, "first", 8)
			x.wantRun(1, api.StopTrap, 2, 1)
			x.wantBegin(strings.Repeat("i", n), fuel, api.ErrFull)
			x.is(trapped, "first", 7)
			x.wantArgs(1, 1)
			x.wantGive(1, api.OK)
			x.wantBegin(strings.Repeat("i", n), fuel, api.ErrFull)
			x.is(goesOn, "first", 7)
		}
	}
}

// Ep1: a request may begin as soon as none goes on, however the last one ended.
func TestBeginAgain(t *testing.T) {
	for _, last := range []func(x *pair){
		func(x *pair) { x.end() },
		func(x *pair) { x.run(1); x.end() },
		func(x *pair) { x.run(9); x.end() },
		func(x *pair) { x.run(9); x.give(1); x.run(9) },
		func(x *pair) { x.run(9); x.give(0); x.run(9) },
		func(x *pair) { x.end(); x.begin("b", 1); x.run(2) },
	} {
		x := of(t, "push 7\ntrap 2\nif 4\npop\nhalt\n", "")
		x.begin("a", 9)
		last(x)
		x.is(none, "", 0)
		x.wantBegin("c", 5, api.OK)
		x.is(goesOn, "c", 5)
	}
}

// Ep1: which ticks may be, ahead of whether a request goes on.
func TestTicks(t *testing.T) {
	wrong := []int{least, -1 << 32, -1 << 20, -2, -1, 0, 1<<20 + 1, 1<<20 + 2, 1 << 32, 1<<32 + 1, greatest}
	right := []int{1, 2, 1<<20 - 1, 1 << 20}
	fresh := func() *pair { return of(t, "trap 3\njump 0", "") }
	started := func() *pair {
		x := fresh()
		x.begin("a", 2)
		return x
	}
	stuck := func() *pair {
		x := started()
		x.run(1)
		return x
	}
	for _, ticks := range wrong {
		for _, x := range []*pair{fresh(), started(), stuck()} {
			how, fuel, input := x.b.how, x.b.fuel, x.b.input
			x.wantNoRun(ticks, api.ErrArg)
			x.is(how, input, fuel)
		}
	}
	for _, ticks := range right {
		x := fresh()
		x.wantNoRun(ticks, api.ErrNone)
		x.is(none, "", 0)
		x = stuck()
		x.wantNoRun(ticks, api.ErrNone)
		x.is(trapped, "a", 1)
		x = started()
		x.wantRun(ticks, api.StopTrap, 3, 1)
		x.is(trapped, "a", 1)
	}
	// None goes on behind one that has ended.
	for _, end := range []string{"halt", "pop", "push 1"} {
		x := of(t, end, "")
		x.begin("a", 2)
		x.run(2)
		x.wantNoRun(1, api.ErrNone)
		x.is(none, "", 0)
	}
}

// Ep1: ticks below, at and above the fuel that is left.
func TestTicksAndFuel(t *testing.T) {
	loop := "push 1\npop\njump 0"
	for _, fuel := range []int{1, 2, 3, 4, 100} {
		for _, ticks := range []int{1, 2, 3, 4, 5, 99, 100, 101, 1 << 20} {
			x := of(t, loop, "")
			x.begin("a", fuel)
			left := fuel
			for left > 0 {
				used := min(ticks, left)
				left -= used
				x.wantRun(ticks, api.StopFuel, 0, used)
				if left > 0 {
					x.is(goesOn, "a", left)
				}
			}
			x.is(none, "", 0)
		}
	}
	// All the fuel that there may be, at one time and in parts.
	for _, parts := range [][]int{{1 << 20}, {1, 1<<20 - 1}, {1<<20 - 1, 1 << 20}, {1 << 19, 1 << 19}, {1 << 18, 1 << 18, 1 << 20}} {
		p, _ := ep.New(parsed(t, loop), "")
		p.Begin("a", 1<<20)
		left := 1 << 20
		for _, ticks := range parts {
			used := min(ticks, left)
			left -= used
			if stop, e := p.Run(ticks); stop != (api.Stop{Kind: api.StopFuel, Used: used}) || e != api.OK || p.Fuel() != left || p.Busy() != (left > 0) {
				t.Error(parts, ticks, stop, e, p.Fuel(), p.Busy())
			}
		}
		if p.Busy() || p.Input() != "" {
			t.Error(parts, p.Busy(), p.Input())
		}
	}
}

// Ep1: how runs end, with more fuel than they take, and with just as much.
func TestEnds(t *testing.T) {
	for _, c := range []struct {
		text       string
		kind, trap int
		used       int
	}{
		{"halt", api.StopHalt, 0, 1},
		{"push 1\npush 2\nadd\nhalt", api.StopHalt, 0, 4},
		{"pop", api.StopFault, 0, 1},
		{"push 1", api.StopFault, 0, 2},
		{"push 1\npush 0\ndiv\nhalt", api.StopFault, 0, 3},
		{"push 4096\nload\nhalt", api.StopFault, 0, 2},
		{"push 1\npush -1\nstore\nhalt", api.StopFault, 0, 3},
		{"ret", api.StopFault, 0, 1},
		{"trap 1", api.StopTrap, 1, 1},
		{"push 4\ntrap 99", api.StopTrap, 99, 2},
		{"jump 1\ncall 2\ntrap 50\nhalt", api.StopTrap, 50, 3},
	} {
		for _, more := range []int{0, 1, 7} {
			for _, ticks := range []int{c.used, c.used + 1, 1 << 20} {
				x := of(t, c.text, "")
				x.begin("a", c.used+more)
				x.wantRun(ticks, c.kind, c.trap, c.used)
				if c.kind == api.StopTrap {
					x.is(trapped, "a", more)
				} else {
					x.is(none, "", 0)
				}
			}
			// The same, one instruction at a time.
			x := of(t, c.text, "")
			x.begin("a", c.used+more)
			for k := range c.used - 1 {
				x.wantRun(1, api.StopFuel, 0, 1)
				x.is(goesOn, "a", c.used+more-k-1)
			}
			x.wantRun(1, c.kind, c.trap, 1)
		}
		// With one less the fuel is spent ahead of that end.
		if c.used > 1 {
			x := of(t, c.text, "")
			x.begin("a", c.used-1)
			x.wantRun(1<<20, api.StopFuel, 0, c.used-1)
			x.is(none, "", 0)
		}
	}
}

// Ep1, Ep2: one that trapped by its last fuel is trapped, goes on behind Give,
// and ends by the next run, that takes none.
func TestTrapWithoutFuel(t *testing.T) {
	x := of(t, "push 4\npush 5\ntrap 7\nhalt", "")
	x.wantBegin("a", 3, api.OK)
	x.wantRun(3, api.StopTrap, 7, 3)
	x.is(trapped, "a", 0)
	x.wantNoRun(1, api.ErrNone)
	x.wantArgs(2, 4, 5)
	x.is(trapped, "a", 0)
	x.wantGive(6, api.OK)
	x.is(goesOn, "a", 0)
	x.wantBegin("b", 1, api.ErrFull)
	x.wantRun(1, api.StopFuel, 0, 0)
	x.is(none, "", 0)
	x.wantNoRun(1, api.ErrNone)
	x.wantBegin("b", 1, api.OK)
}

// Ep1: the state goes on from run to run: numbers, calls and what is next.
func TestStateGoesOn(t *testing.T) {
	text := "call 2\nhalt\npush 10\ncall 6\npush 3\nret\npush 20\npush 30\nadd\ntrap 4\nadd\nret"
	for ticks := 1; ticks < 12; ticks++ {
		x := of(t, text, "")
		x.begin("", 100)
		for x.b.how == goesOn {
			x.run(ticks)
			x.stands()
		}
		x.is(trapped, "", 93)
		x.wantArgs(2, 10, 50)
		x.wantGive(1, api.OK)
		for x.b.how == goesOn {
			x.run(ticks)
			x.stands()
		}
		// It took one number where two had been: the addition fails.
		x.is(none, "", 0)
	}
	x := of(t, text, "")
	x.begin("", 100)
	x.wantRun(99, api.StopTrap, 4, 7)
	x.wantArgs(1, 50)
	x.wantGive(8, api.OK)
	x.wantRun(2, api.StopFuel, 0, 2)
	x.is(goesOn, "", 91)
	x.wantRun(2, api.StopFuel, 0, 2)
	x.wantRun(2, api.StopHalt, 0, 1)
	x.is(none, "", 0)
}

// Ep2: Args of one that is not trapped, whatever is asked for.
func TestArgsNotTrapped(t *testing.T) {
	for _, n := range []int{least, -1, 0, 1, 2, 64, greatest} {
		x := of(t, "push 4\npush 5\ntrap 7\nhalt", "")
		x.wantNoArgs(n, api.ErrNone)
		x.wantBegin("a", 9, api.OK)
		x.wantNoArgs(n, api.ErrNone)
		x.wantRun(2, api.StopFuel, 0, 2)
		x.wantNoArgs(n, api.ErrNone)
		x.is(goesOn, "a", 7)
		x.wantRun(1, api.StopTrap, 7, 1)
		x.wantGive(6, api.OK)
		x.wantNoArgs(n, api.ErrNone)
		x.is(goesOn, "a", 6)
		x.wantRun(1, api.StopHalt, 0, 1)
		x.wantNoArgs(n, api.ErrNone)
		x.is(none, "", 0)
		// End behind a trap.
		x.begin("a", 9)
		x.wantRun(9, api.StopTrap, 7, 3)
		x.end()
		x.wantNoArgs(n, api.ErrNone)
		x.begin("b", 9)
		x.wantNoArgs(n, api.ErrNone)
	}
}

// Ep2: Args takes off the last numbers, in order; what it refuses takes none.
func TestArgs(t *testing.T) {
	for _, count := range []int{0, 1, 2, 3, 63, 64} {
		for n := range count + 1 {
			x := of(t, deep(count), "")
			x.begin("a", 200)
			x.wantRun(200, api.StopTrap, 5, count+1)
			for _, k := range []int{-1, -2, -64, -1 << 32, least} {
				x.wantNoArgs(k, api.ErrArg)
			}
			for _, k := range []int{count + 1, count + 2, 64 + count + 1, 1 << 32, greatest} {
				x.wantNoArgs(k, api.ErrNone)
			}
			x.is(trapped, "a", 199-count)
			x.wantArgs(n, upTo(count)[count-n:]...)
			x.is(trapped, "a", 199-count)
			x.wantNoArgs(count-n+1, api.ErrNone)
			x.wantArgs(count-n, upTo(count-n)...)
			x.wantNoArgs(1, api.ErrNone)
			x.wantArgs(0)
			x.is(trapped, "a", 199-count)
		}
	}
}

// Ep2: Give of one that is not trapped.
func TestGiveNotTrapped(t *testing.T) {
	for _, n := range []int{least, -1, 0, 1, greatest} {
		x := of(t, "push 4\ntrap 7\ntrap 8\nhalt", "")
		x.wantGive(n, api.ErrNone)
		x.begin("a", 9)
		x.wantGive(n, api.ErrNone)
		x.wantRun(1, api.StopFuel, 0, 1)
		x.wantGive(n, api.ErrNone)
		x.is(goesOn, "a", 8)
		x.wantRun(1, api.StopTrap, 7, 1)
		x.wantGive(n, api.OK)
		x.wantGive(n, api.ErrNone)
		x.is(goesOn, "a", 7)
		// Of what was refused nothing is on the stack.
		x.wantRun(9, api.StopTrap, 8, 1)
		x.wantArgs(2, 4, n)
		x.wantNoArgs(1, api.ErrNone)
		x.wantGive(n, api.OK)
		x.wantRun(9, api.StopHalt, 0, 1)
		x.wantGive(n, api.ErrNone)
		x.begin("a", 9)
		x.wantRun(9, api.StopTrap, 7, 2)
		x.end()
		x.wantGive(n, api.ErrNone)
		x.is(none, "", 0)
	}
}

// Ep2: Give to stacks that have room and have none; then it stays trapped.
func TestGiveFull(t *testing.T) {
	for _, count := range []int{0, 1, 62, 63} {
		x := of(t, deep(count), "")
		x.begin("a", 200)
		x.wantRun(200, api.StopTrap, 5, count+1)
		x.wantGive(77, api.OK)
		x.is(goesOn, "a", 199-count)
		x.wantRun(2, api.StopTrap, 5, 2)
		x.wantArgs(count+1, append(upTo(count), 77)...)
	}
	x := of(t, deep(64), "")
	x.begin("a", 200)
	x.wantRun(200, api.StopTrap, 5, 65)
	for range 3 {
		x.wantGive(77, api.ErrFull)
		x.is(trapped, "a", 135)
		x.wantNoRun(1, api.ErrNone)
	}
	x.wantArgs(0)
	x.wantGive(77, api.ErrFull)
	x.wantArgs(1, 64)
	x.is(trapped, "a", 135)
	x.wantGive(77, api.OK)
	x.is(goesOn, "a", 135)
	x.wantRun(2, api.StopTrap, 5, 2)
	x.wantGive(78, api.ErrFull)
	x.wantArgs(64, append(upTo(63), 77)...)
	x.is(trapped, "a", 133)
}

// Ep2: End of one that runs, is trapped, has no request.
func TestEnd(t *testing.T) {
	x := of(t, "push 65\npush 300\nstore\npush 4\ntrap 7\nhalt", "m")
	x.end()
	x.is(none, "", 0)
	x.begin("a", 50)
	x.end()
	x.is(none, "", 0)
	x.begin("b", 50)
	x.wantRun(3, api.StopFuel, 0, 3)
	x.is(goesOn, "b", 47)
	x.end()
	x.is(none, "", 0)
	x.wantPages(1)
	x.begin("c", 60)
	x.is(goesOn, "c", 60)
	x.wantRun(50, api.StopTrap, 7, 5)
	x.is(trapped, "c", 55)
	x.end()
	x.is(none, "", 0)
	x.end()
	x.is(none, "", 0)
	x.begin("d", 60)
	x.is(goesOn, "d", 60)
	x.wantRun(50, api.StopTrap, 7, 5)
	x.wantArgs(1, 4)
	x.wantNoArgs(1, api.ErrNone)
	x.wantPages(1)
	if s, ok := x.p.Text(299, 3); s != "\x00A\x00" || !ok {
		t.Error(s, ok)
	}
}

// Ep4: a request begins with nothing of the last one but the memory: no number,
// no call, not where it stood, nor that it was trapped.
func TestNothingElse(t *testing.T) {
	text := "push 4\ncall 2\ntrap 7\nret"
	ways := []func(x *pair){
		func(x *pair) { x.run(1); x.end() },
		func(x *pair) { x.run(2); x.end() },
		func(x *pair) { x.run(3); x.end() },
		func(x *pair) { x.run(3); x.args(1); x.end() },
		func(x *pair) { x.run(3); x.give(9); x.end() },
		func(x *pair) { x.run(3); x.give(9); x.run(1); x.end() },
		// To its last fuel, to a fault.
		func(x *pair) { x.run(3); x.give(9); x.run(9); x.give(9); x.run(9) },
		func(x *pair) { x.end(); x.begin("", 2); x.run(2) },
	}
	for k, way := range ways {
		x := of(t, text, "m")
		x.begin("last", 40)
		way(x)
		x.is(none, "", 0)
		x.begin("next", 40)
		x.is(goesOn, "next", 40)
		x.wantRun(9, api.StopTrap, 7, 3)
		x.wantArgs(1, 4)
		x.wantNoArgs(1, api.ErrNone)
		x.wantGive(1, api.OK)
		// Back from its one call, it traps at the same place again.
		x.wantRun(9, api.StopTrap, 7, 2)
		x.wantGive(1, api.OK)
		// No call is left.
		x.wantRun(9, api.StopFault, 0, 1)
		if x.b.how != none {
			t.Error(k)
		}
	}
}

// R1: of one that New and Copy did not give.
func TestNotGiven(t *testing.T) {
	given := of(t, "push 4\ntrap 7\nhalt", "m")
	given.begin("a", 9)
	given.run(9)
	copied := *given.p
	idle := *of(t, "push 4\ntrap 7\nhalt", "m").p
	for k, p := range []*ep.Ep{nil, {}, new(ep.Ep), &copied, &idle} {
		for _, n := range []int{least, -1, 0, 1, 9, 1 << 20, 1<<20 + 1, greatest} {
			if e := p.Begin("in", n); e != api.ErrArg {
				t.Error(k, "Begin", n, e)
			}
			if e := p.Begin(strings.Repeat("i", 65537), n); e != api.ErrArg {
				t.Error(k, "Begin", n, e)
			}
			if stop, e := p.Run(n); stop != (api.Stop{}) || e != api.ErrArg {
				t.Error(k, "Run", n, stop, e)
			}
			if l, e := p.Args(n); l != nil || e != api.ErrArg {
				t.Error(k, "Args", n, l, e)
			}
			if e := p.Give(n); e != api.ErrArg {
				t.Error(k, "Give", n, e)
			}
			if s, ok := p.Text(n, n); s != "" || ok {
				t.Error(k, "Text", n, s, ok)
			}
			if s, ok := p.Text(0, n); s != "" || ok {
				t.Error(k, "Text", n, s, ok)
			}
			if p.Lay(n, "x") || p.Lay(n, "") {
				t.Error(k, "Lay", n)
			}
		}
		p.End()
		if p.Busy() || p.Input() != "" || p.Fuel() != 0 || p.Pages() != nil || p.Copy() != nil {
			t.Error(k, p.Busy(), p.Input(), p.Fuel(), p.Pages(), p.Copy())
		}
	}
	// The one that was copied by assignment stands as it did.
	given.is(trapped, "a", 7)
	given.wantArgs(1, 4)
	given.wantPages()
}
