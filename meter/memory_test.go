package meter_test

import (
	"cloister/api"
	"cloister/meter"
	"fmt"
	"math"
	"slices"
	"sync"
	"testing"
	"unsafe"
)

// roomy is a list with others behind its end.
func roomy[T any](l []T, behind ...T) []T {
	return append(slices.Clone(l), behind...)[:len(l)]
}

// shown is all of a list, what lies behind its end too.
func shown[T any](l []T) string { return fmt.Sprintf("%#v", l[:cap(l)]) }

// spoil changes all that a list has, and the room behind it.
func spoil[T any](l []T, with T) {
	for i := range l[:cap(l)] {
		l[:cap(l)][i] = with
	}
}

// asked is all that is handed in.
type asked struct {
	c                                   api.Config
	within, ahead, conns, ticks, number int
	steps                               []api.Step
	outs                                []api.Out
}

// answers is all that is answered of it.
func (a asked) answers() string {
	bound, e := meter.Bound(a.c, a.within, a.ahead)
	units, f := meter.Units(a.c, a.conns, a.ticks)
	fair, g := meter.Fair(a.c, a.conns, a.within, a.steps)
	n, closed := meter.Count(a.outs, a.number)
	return fmt.Sprintf("%d %v, %v %v, %v %v, %d %v", bound, e, units, f, fair, g, n, closed)
}

// asks are drawn arguments.
func (d drawn) asks() asked {
	a := asked{c: made(1+d.Intn(3), 9, 2), conns: d.Intn(4), ticks: 1 + d.Intn(9), number: d.Intn(3)}
	a.steps = d.script(a.c, a.conns)
	a.within, a.ahead = 1+d.Intn(20), d.Intn(9)
	for range d.Intn(9) {
		a.outs = append(a.outs, api.Out{Conn: d.Intn(3), Bytes: d.answer(), Close: d.Intn(9) == 0})
	}
	return a
}

// R3: what is handed in is not changed, and not read beyond its lists' ends.
func TestArguments(t *testing.T) {
	for seed := range int64(1000) {
		a := draws(seed).asks()
		b := a
		b.c.Users = roomy(a.c.Users, make([]api.User, 20)...)
		b.c.Code, b.c.Draws, b.c.Rows = roomy([]api.Instr{{Op: 1}}, api.Instr{Op: 9}), roomy([]int{7}, 8), roomy([]api.Row{{Key: "k"}}, api.Row{})
		b.steps = roomy(a.steps, slices.Repeat([]api.Step{{Kind: 9}}, 70)...)
		b.outs = roomy(a.outs, api.Out{Conn: a.number, Bytes: draws(seed).answer(), Close: true})
		whole := func() string {
			return shown(b.c.Users) + shown(b.c.Code) + shown(b.c.Draws) + shown(b.c.Rows) + shown(b.steps) + shown(b.outs)
		}
		before := whole()
		if got, want := b.answers(), a.answers(); got != want {
			t.Fatalf("%v: %s; want %s", a, got, want)
		}
		if whole() != before {
			t.Fatal("changed:", a)
		}
	}
}

// R3: an answer is new each time, the room behind it too.
func TestAnswersAreNew(t *testing.T) {
	for conns := range 9 {
		for users := 1; users <= 16; users++ {
			c := made(users, 9, 2)
			a, _ := meter.Units(c, conns, 7)
			want := slices.Clone(a)
			b, _ := meter.Units(c, conns, 7)
			spoil(b, api.Step{Kind: -7, Bytes: "spoiled"})
			if !slices.Equal(a, want) {
				t.Fatal("an answer is shared:", a)
			}
			_ = append(a, api.Step{Kind: -8})
			wantUnits(t, c, conns, 7, want, api.OK)
		}
	}
}

// R3: nothing is kept of what was handed in: it is changed afterwards, and asked
// for again as it was and as it is.
func TestNothingIsKept(t *testing.T) {
	for seed := range int64(300) {
		a, other := draws(seed).asks(), draws(seed+1000).asks()
		want, wantOther := a.answers(), other.answers()
		b := a
		b.steps, b.outs, b.c.Users = slices.Clone(a.steps), slices.Clone(a.outs), slices.Clone(a.c.Users)
		b.answers()
		spoil(b.steps, api.Step{Kind: -7})
		spoil(b.outs, api.Out{Conn: a.number, Bytes: "spoiled", Close: true})
		spoil(b.c.Users, api.User{Name: "spoiled"})
		if got := a.answers(); got != want {
			t.Fatalf("%v: %s; want %s", a, got, want)
		}
		if got := other.answers(); got != wantOther {
			t.Fatalf("%v: %s; want %s", other, got, wantOther)
		}
	}
	// The same memory with other bytes in it.
	text := []byte(response(200, "hi", false))
	l := []api.Out{{Conn: 1, Bytes: unsafe.String(&text[0], len(text))}}
	wantCount(t, l, 1, 1, false)
	text[0] = 'h'
	wantCount(t, l, 1, 0, false)
	text[0] = 'H'
	wantCount(t, l, 1, 1, false)
}

// R3: nil and the empty list are the same.
func TestNilAndEmpty(t *testing.T) {
	a := asked{c: made(1, 9, 1), within: 1, ticks: 1}
	b := a
	b.c.Draws, b.c.Code, b.c.Rows = []int{}, []api.Instr{}, []api.Row{}
	b.steps, b.outs = []api.Step{}, []api.Out{}
	if a.answers() != b.answers() {
		t.Error(a.answers(), b.answers())
	}
	none := b
	a.c.Users, none.c.Users = nil, []api.User{}
	if a.answers() != none.answers() || a.answers() == b.answers() {
		t.Error(a.answers(), none.answers())
	}
}

// R1, R2: all numbers, and beside an error nothing.
func TestExtremes(t *testing.T) {
	odd := []int{math.MinInt, math.MinInt + 1, -1 << 32, -1, 0, 1, 64, 65, 65536, 65537, 1 << 20, 1<<20 + 1, 1<<31 - 1, 1 << 32, 1<<32 + 1, math.MaxInt - 1, math.MaxInt}
	var steps []api.Step
	var outs []api.Out
	for _, a := range odd {
		for _, b := range odd {
			steps = append(steps, api.Step{Kind: a, At: b, Ticks: b, Bytes: "x"}, api.Step{Kind: api.StepWorker, At: a, Ticks: b}, worker(0, 1), table(0))
			outs = append(outs, api.Out{Step: a, Conn: b, Bytes: response(200, "", true), Close: a > b})
		}
	}
	for _, users := range []int{0, 1, 16, 17, 1000} {
		for _, fuel := range odd {
			for _, asks := range odd {
				c := made(users, fuel, asks)
				for _, n := range odd {
					bound, e := toldBound(c, n, 3)
					wantBound(t, c, n, 3, int(bound.Int64()), e)
					bound, e = toldBound(c, 3, n)
					wantBound(t, c, 3, n, int(bound.Int64()), e)
				}
			}
		}
	}
	for _, a := range odd {
		for _, b := range odd {
			c := made(1, 1, 1)
			units, e := toldUnits(c, a, b)
			wantUnits(t, c, a, b, units, e)
			fair := a == 0 && b > 8 && b <= 65536
			e = api.OK
			if a < 0 || a > 64 || b < 1 || b > 65536 {
				e = api.ErrArg
			} else if b > len(steps) {
				fair = true
			}
			wantFair(t, c, a, b, steps, fair, e)
		}
		wantCount(t, outs, a, len(odd), a != math.MaxInt)
	}
}

// R4: what is answered is the same each time, whoever asks meanwhile.
func TestTogether(t *testing.T) {
	a := draws(5).asks()
	want := a.answers()
	got := make([]string, 8)
	var all sync.WaitGroup
	for k := range got {
		all.Go(func() {
			for range 50 {
				if got[k] = a.answers(); got[k] != want {
					return
				}
			}
		})
	}
	all.Wait()
	for _, text := range got {
		if text != want {
			t.Error(text, want)
		}
	}
}
