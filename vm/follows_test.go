package vm_test

import (
	"cloister/api"
	"cloister/vm"
	"math/rand"
	"slices"
	"testing"
)

// Vm3: by some fuel and then by more is by both together, wherever a run is cut.
func TestCut(t *testing.T) {
	from := rand.New(rand.NewSource(33))
	cuts := 0
	for range 4000 {
		l, m := drawnCode(from, 1+from.Intn(15))
		s := api.State{}
		if from.Intn(2) == 0 {
			s = drawnState(from, len(l))
		}
		fuel := from.Intn(60)
		together := m.copy()
		want, wantStop, e := vm.Run(l, like(s), together, fuel)
		if e != api.OK || wantStop.Used > fuel || wantStop.Kind == api.StopFuel && wantStop.Used != fuel {
			t.Fatal(want, wantStop, e)
		}
		for first := range fuel + 1 {
			parts := m.copy()
			half, stop, e := vm.Run(l, like(s), parts, first)
			if e != api.OK || stop.Used > first {
				t.Fatal(half, stop, e)
			}
			if stop.Kind != api.StopFuel {
				// It ended by itself, as with more fuel too.
				if !same(half, want) || stop != wantStop || !parts.equal(together) {
					t.Fatalf("%s, %s by %d: %v, %v, not %v, %v", shown(l), shown(s), first, half, stop, want, wantStop)
				}
				continue
			}
			cuts++
			got, then, e := vm.Run(l, half, parts, fuel-first)
			then.Used += stop.Used
			if e != api.OK || !same(got, want) || then != wantStop || !parts.equal(together) {
				t.Fatalf("%s, %s by %d of %d: %v, %v, %d, not %v, %v", shown(l), shown(s), first, fuel, got, then, e, want, wantStop)
			}
		}
	}
	if cuts < 10000 {
		t.Error(cuts)
	}
}

// Vm3: one instruction at a time, up to all the fuel that there may be.
func TestOneByOne(t *testing.T) {
	l := of(t, "push 0\npush 1\nadd\ndup 0\npush 255\nand\npush 3\nrem\npush 7\nstore\ndup 0\npush 2000\nless\nif 1\npush 7\nload\ntrap 6\njump 0")
	whole, parts := blank(8), blank(8)
	want, wantStop, e := vm.Run(l, api.State{}, whole, api.MaxFuel)
	if e != api.OK || wantStop.Kind != api.StopTrap {
		t.Fatal(want, wantStop, e)
	}
	s, used := api.State{}, 0
	for {
		var stop api.Stop
		s, stop, e = vm.Run(l, s, parts, 1)
		used++
		if e != api.OK || stop.Used != 1 || used > wantStop.Used {
			t.Fatal(s, stop, e, used)
		}
		if stop.Kind != api.StopFuel {
			stop.Used = used
			if !same(s, want) || stop != wantStop || !parts.equal(whole) {
				t.Error(s, stop, want, wantStop)
			}
			break
		}
	}
	// The greatest fuel is cut too, at its edges and in the middle.
	loop := of(t, "push 1\nadd\njump 0")
	all, stop, e := vm.Run(loop, with(0), blank(0), api.MaxFuel)
	if e != api.OK || stop != (api.Stop{Kind: api.StopFuel, Used: 1 << 20}) || !same(all, api.State{Pc: 1, Stack: []int{349525, 1}}) {
		t.Error(all, stop, e)
	}
	for _, first := range []int{0, 1, 2, 1 << 19, 1<<20 - 1, 1 << 20} {
		half, _, _ := vm.Run(loop, with(0), blank(0), first)
		got, stop, e := vm.Run(loop, half, blank(0), 1<<20-first)
		if !same(got, all) || stop != (api.Stop{Kind: api.StopFuel, Used: 1<<20 - first}) || e != api.OK {
			t.Error(first, got, stop, e)
		}
	}
}

// Vm2: Push, up to as many numbers as there may be.
func TestPush(t *testing.T) {
	for n := range 64 {
		for _, x := range []int{least, -1, 0, 1, greatest} {
			s := api.State{Pc: n, Stack: upTo(n), Calls: []int{3, 4}}
			got, e := vm.Push(s, x)
			if !same(got, api.State{Pc: n, Stack: append(upTo(n), x), Calls: []int{3, 4}}) || e != api.OK {
				t.Errorf("%d, %d: %v, %d", n, x, got, e)
			}
		}
	}
	for _, n := range []int{64, 65, 66, 128, 1000} {
		if got, e := vm.Push(api.State{Pc: 1, Stack: upTo(n), Calls: []int{1}}, 5); !same(got, api.State{}) || e != api.ErrFull {
			t.Errorf("%d: %v, %d", n, got, e)
		}
	}
	// The rest of a state is not looked at.
	for _, s := range []api.State{{Pc: -1}, {Pc: least, Calls: []int{-1, greatest}}, {Pc: greatest, Stack: upTo(63), Calls: make([]int, 100)}} {
		if got, e := vm.Push(s, 5); !same(got, api.State{Pc: s.Pc, Stack: append(slices.Clone(s.Stack), 5), Calls: s.Calls}) || e != api.OK {
			t.Errorf("%v: %v, %d", s, got, e)
		}
	}
}

// Vm2: Take of all that there are, fewer, and more.
func TestTake(t *testing.T) {
	for _, n := range []int{0, 1, 2, 3, 63, 64, 65, 200} {
		s := api.State{Pc: 7, Stack: upTo(n), Calls: []int{3, 4}}
		for k := range n + 1 {
			got, numbers, e := vm.Take(s, k)
			if !same(got, api.State{Pc: 7, Stack: upTo(n)[:n-k], Calls: []int{3, 4}}) || !slices.Equal(numbers, upTo(n)[n-k:]) || e != api.OK {
				t.Errorf("%d of %d: %v, %v, %d", k, n, got, numbers, e)
			}
		}
		for _, k := range []int{n + 1, n + 2, n + 64, 1 << 32, greatest} {
			if got, numbers, e := vm.Take(s, k); !same(got, api.State{}) || len(numbers) != 0 || e != api.ErrNone {
				t.Errorf("%d of %d: %v, %v, %d", k, n, got, numbers, e)
			}
		}
		for _, k := range []int{-1, -2, -n - 1, -1 << 32, least} {
			if got, numbers, e := vm.Take(s, k); !same(got, api.State{}) || len(numbers) != 0 || e != api.ErrArg {
				t.Errorf("%d of %d: %v, %v, %d", k, n, got, numbers, e)
			}
		}
	}
	// The rest of a state is not looked at.
	for _, s := range []api.State{{Pc: -1, Stack: []int{8}}, {Pc: greatest, Stack: []int{8}, Calls: slices.Repeat([]int{-1}, 100)}} {
		if got, numbers, e := vm.Take(s, 1); !same(got, api.State{Pc: s.Pc, Calls: s.Calls}) || !slices.Equal(numbers, []int{8}) || e != api.OK {
			t.Errorf("%v: %v, %v, %d", s, got, numbers, e)
		}
	}
}

// Vm2: what is pushed is taken, as it was.
func TestPushAndTake(t *testing.T) {
	from := rand.New(rand.NewSource(2))
	for range 2000 {
		s := drawnState(from, 9)
		next := s
		var put []int
		for range from.Intn(70) {
			n := drawnNumber(from)
			var e api.Errno
			if next, e = vm.Push(next, n); e != api.OK {
				if len(s.Stack)+len(put) != 64 || e != api.ErrFull {
					t.Fatal(len(s.Stack), len(put), e)
				}
				next = api.State{Pc: s.Pc, Stack: append(slices.Clone(s.Stack), put...), Calls: s.Calls}
				break
			}
			put = append(put, n)
		}
		if got, numbers, e := vm.Take(next, len(put)); !same(got, s) || !slices.Equal(numbers, put) || e != api.OK {
			t.Fatal(got, numbers, e, s, put)
		}
	}
}
