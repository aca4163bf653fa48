package ep_test

import (
	"cloister/api"
	"cloister/code"
	"cloister/ep"
	"cloister/vm"
	"fmt"
	"math"
	"math/rand"
	"slices"
	"strings"
	"testing"
)

const (
	least    = math.MinInt
	greatest = math.MaxInt
)

// How a request stands, in the document's words.
const (
	none    = "no request"
	goesOn  = "goes on"
	trapped = "trapped"
)

// told is an event process as the document tells of it, another way than the
// program does: the memory is one run of bytes beside a list of the places that
// were stored to, and a run is done one instruction at a time.
type told struct {
	code   []api.Instr
	bytes  []byte
	stored []bool
	how    string
	input  string
	fuel   int
	state  api.State
}

func toldOf(code []api.Instr, image string) *told {
	b := &told{code: slices.Clone(code), bytes: make([]byte, 4096), stored: make([]bool, 4096), how: none}
	for i, x := range []byte(image) {
		b.bytes[i] = x
	}
	return b
}

func (b *told) copy() *told {
	c := *b
	c.bytes, c.stored = slices.Clone(b.bytes), slices.Clone(b.stored)
	c.state = api.State{Pc: b.state.Pc, Stack: slices.Clone(b.state.Stack), Calls: slices.Clone(b.state.Calls)}
	return &c
}

func (b *told) Load(at int) (byte, bool) {
	if at < 0 || at >= 4096 {
		return 0, false
	}
	return b.bytes[at], true
}

func (b *told) Store(at int, x byte) bool {
	if at < 0 || at >= 4096 {
		return false
	}
	b.bytes[at], b.stored[at] = x, true
	return true
}

func (b *told) end() {
	b.how, b.input, b.fuel, b.state = none, "", 0, api.State{}
}

func (b *told) begin(input string, fuel int) api.Errno {
	if b.how != none {
		return api.ErrFull
	}
	if len(input) > 65536 {
		return api.ErrLong
	}
	if fuel < 1 || fuel > 1048576 {
		return api.ErrArg
	}
	b.how, b.input, b.fuel, b.state = goesOn, input, fuel, api.State{}
	return api.OK
}

func (b *told) run(ticks int) (api.Stop, api.Errno) {
	if ticks < 1 || ticks > 1048576 {
		return api.Stop{}, api.ErrArg
	}
	if b.how != goesOn {
		return api.Stop{}, api.ErrNone
	}
	all := api.Stop{Kind: api.StopFuel}
	for b.fuel > 0 && ticks > all.Used && all.Kind == api.StopFuel {
		s, stop, e := vm.Run(b.code, b.state, b, 1)
		if e != api.OK {
			panic(e)
		}
		b.state = s
		b.fuel--
		all = api.Stop{Kind: stop.Kind, Trap: stop.Trap, Used: all.Used + 1}
	}
	switch {
	case all.Kind == api.StopTrap:
		b.how = trapped
	case all.Kind == api.StopFuel && b.fuel > 0:
	default:
		b.end()
	}
	return all, api.OK
}

func (b *told) args(n int) ([]int, api.Errno) {
	k := len(b.state.Stack)
	switch {
	case b.how != trapped:
		return nil, api.ErrNone
	case n < 0:
		return nil, api.ErrArg
	case n > k:
		return nil, api.ErrNone
	}
	out := slices.Clone(b.state.Stack[k-n:])
	b.state.Stack = b.state.Stack[:k-n]
	return out, api.OK
}

func (b *told) give(n int) api.Errno {
	if b.how != trapped {
		return api.ErrNone
	}
	if len(b.state.Stack) == 64 {
		return api.ErrFull
	}
	b.state.Stack = append(slices.Clone(b.state.Stack), n)
	b.how = goesOn
	return api.OK
}

// inside tells whether all places of a part are of the memory.
func inside(at, n int) bool {
	if n == 0 {
		return at >= 0 && at <= 4096
	}
	return at >= 0 && at < 4096 && n > 0 && n <= 4096 && at+n-1 < 4096
}

func (b *told) text(at, n int) (string, bool) {
	if !inside(at, n) {
		return "", false
	}
	return string(b.bytes[at : at+n]), true
}

func (b *told) lay(at int, s string) bool {
	if !inside(at, len(s)) {
		return false
	}
	for i, x := range []byte(s) {
		b.Store(at+i, x)
	}
	return true
}

func (b *told) pages() []int {
	var out []int
	for k := range 16 {
		if slices.Contains(b.stored[256*k:256*k+256], true) {
			out = append(out, k)
		}
	}
	return out
}

// pair is an event process beside what the document says of it.
type pair struct {
	t *testing.T
	p *ep.Ep
	b *told
}

func made(t *testing.T, l []api.Instr, image string) *pair {
	t.Helper()
	p, e := ep.New(l, image)
	if p == nil || e != api.OK {
		t.Fatalf("New(%s, %s): %d", shown(l), shown(image), e)
	}
	x := &pair{t: t, p: p, b: toldOf(l, image)}
	x.stands()
	return x
}

// of is an event process of a text of instructions.
func of(t *testing.T, text, image string) *pair {
	t.Helper()
	return made(t, parsed(t, text), image)
}

func parsed(t *testing.T, text string) []api.Instr {
	t.Helper()
	l, e, at := code.Parse(text)
	if e != api.OK {
		t.Fatal(text, e, at)
	}
	return l
}

func (x *pair) copy() *pair {
	x.t.Helper()
	c := &pair{t: x.t, p: x.p.Copy(), b: x.b.copy()}
	if c.p == nil || c.p == x.p {
		x.t.Fatal("no copy")
	}
	c.stands()
	return c
}

// stands tells whether all that is to be seen is as the document says.
func (x *pair) stands() {
	x.t.Helper()
	if got, want := x.p.Busy(), x.b.how != none; got != want {
		x.t.Fatalf("Busy: %v, not %v", got, want)
	}
	if got := x.p.Input(); got != x.b.input {
		x.t.Fatalf("Input: %s, not %s", shown(got), shown(x.b.input))
	}
	if got := x.p.Fuel(); got != x.b.fuel {
		x.t.Fatalf("Fuel: %d, not %d", got, x.b.fuel)
	}
	if got, want := x.p.Pages(), x.b.pages(); !slices.Equal(got, want) {
		x.t.Fatalf("Pages: %v, not %v", got, want)
	}
	if got, ok := x.p.Text(0, 4096); !ok || got != string(x.b.bytes) {
		x.t.Fatalf("Text: %s, %v, not %s", shown(got), ok, shown(x.b.bytes))
	}
}

func (x *pair) begin(input string, fuel int) api.Errno {
	x.t.Helper()
	want := x.b.begin(input, fuel)
	if e := x.p.Begin(input, fuel); e != want {
		x.t.Fatalf("Begin(%d bytes, %d): %d, not %d", len(input), fuel, e, want)
	}
	return want
}

func (x *pair) run(ticks int) (api.Stop, api.Errno) {
	x.t.Helper()
	want, wantE := x.b.run(ticks)
	if stop, e := x.p.Run(ticks); stop != want || e != wantE {
		x.t.Fatalf("Run(%d): %v, %d, not %v, %d", ticks, stop, e, want, wantE)
	}
	return want, wantE
}

func (x *pair) args(n int) ([]int, api.Errno) {
	x.t.Helper()
	want, wantE := x.b.args(n)
	got, e := x.p.Args(n)
	if !slices.Equal(got, want) || e != wantE {
		x.t.Fatalf("Args(%d): %v, %d, not %v, %d", n, got, e, want, wantE)
	}
	return got, e
}

func (x *pair) give(n int) api.Errno {
	x.t.Helper()
	want := x.b.give(n)
	if e := x.p.Give(n); e != want {
		x.t.Fatalf("Give(%d): %d, not %d", n, e, want)
	}
	return want
}

func (x *pair) end() {
	x.p.End()
	x.b.end()
}

func (x *pair) text(at, n int) (string, bool) {
	x.t.Helper()
	want, wantOk := x.b.text(at, n)
	if got, ok := x.p.Text(at, n); got != want || ok != wantOk {
		x.t.Fatalf("Text(%d, %d): %s, %v, not %s, %v", at, n, shown(got), ok, shown(want), wantOk)
	}
	return want, wantOk
}

func (x *pair) lay(at int, s string) bool {
	x.t.Helper()
	want := x.b.lay(at, s)
	if ok := x.p.Lay(at, s); ok != want {
		x.t.Fatalf("Lay(%d, %d bytes): %v, not %v", at, len(s), ok, want)
	}
	return want
}

// wants are like the calls, with what is answered told by hand.

func (x *pair) wantBegin(input string, fuel int, want api.Errno) {
	x.t.Helper()
	if e := x.begin(input, fuel); e != want {
		x.t.Errorf("Begin(%d bytes, %d): %d, not %d", len(input), fuel, e, want)
	}
	x.stands()
}

func (x *pair) wantRun(ticks, kind, trap, used int) {
	x.t.Helper()
	if stop, e := x.run(ticks); stop != (api.Stop{Kind: kind, Trap: trap, Used: used}) || e != api.OK {
		x.t.Errorf("Run(%d): %v, %d, not %d, %d, %d", ticks, stop, e, kind, trap, used)
	}
	x.stands()
}

func (x *pair) wantNoRun(ticks int, want api.Errno) {
	x.t.Helper()
	if stop, e := x.run(ticks); stop != (api.Stop{}) || e != want {
		x.t.Errorf("Run(%d): %v, %d, not %d", ticks, stop, e, want)
	}
	x.stands()
}

func (x *pair) wantArgs(n int, want ...int) {
	x.t.Helper()
	if got, e := x.args(n); !slices.Equal(got, want) || e != api.OK {
		x.t.Errorf("Args(%d): %v, %d, not %v", n, got, e, want)
	}
	x.stands()
}

func (x *pair) wantNoArgs(n int, want api.Errno) {
	x.t.Helper()
	if got, e := x.args(n); len(got) != 0 || e != want {
		x.t.Errorf("Args(%d): %v, %d, not %d", n, got, e, want)
	}
	x.stands()
}

func (x *pair) wantGive(n int, want api.Errno) {
	x.t.Helper()
	if e := x.give(n); e != want {
		x.t.Errorf("Give(%d): %d, not %d", n, e, want)
	}
	x.stands()
}

// is tells whether a request goes on, of which text and fuel; a trapped one
// takes no ticks.
func (x *pair) is(how, input string, fuel int) {
	x.t.Helper()
	if x.p.Busy() != (how != none) || x.p.Input() != input || x.p.Fuel() != fuel || x.b.how != how {
		x.t.Errorf("%v, %s, %d, not %s, %s, %d", x.p.Busy(), shown(x.p.Input()), x.p.Fuel(), how, shown(input), fuel)
	}
	c := x.copy()
	if stop, e := c.p.Run(1); (e == api.OK) != (how == goesOn) || (e != api.OK && (e != api.ErrNone || stop != api.Stop{})) {
		x.t.Errorf("%s: Run: %v, %d", how, stop, e)
	}
	c = x.copy()
	if got, e := c.p.Args(0); (e == api.OK) != (how == trapped) || len(got) != 0 || e != api.OK && e != api.ErrNone {
		x.t.Errorf("%s: Args: %v, %d", how, got, e)
	}
	x.stands()
}

func (x *pair) wantPages(want ...int) {
	x.t.Helper()
	if got := x.p.Pages(); !slices.Equal(got, want) {
		x.t.Errorf("Pages: %v, not %v", got, want)
	}
	x.stands()
}

// shown is something, cut off where it is long.
func shown(x any) string {
	return fmt.Sprintf("%.200s", fmt.Sprintf("%q", fmt.Sprint(x)))
}

// edges are numbers at which something may go round, or be cut.
var edges = []int{least, least + 1, -1 << 32, -4097, -4096, -257, -256, -2, -1, 0, 1, 2, 254, 255, 256, 257, 511, 512, 513, 2048, 3839, 3840, 3841, 4094, 4095, 4096, 4097, 1 << 20, 1<<32 - 1, 1 << 32, 1<<32 + 1, greatest - 4096, greatest - 4095, greatest - 1, greatest}

// drawnNumber is some number, often one of the memory.
func drawnNumber(from *rand.Rand) int {
	switch from.Intn(6) {
	case 0:
		return edges[from.Intn(len(edges))]
	case 1:
		return from.Intn(20) - 2
	default:
		return from.Intn(4096)
	}
}

// drawnCode are some instructions, that often load, store and trap.
func drawnCode(from *rand.Rand) []api.Instr {
	l := make([]api.Instr, 1+from.Intn(25))
	for k := range l {
		i := api.Instr{Op: 1 + from.Intn(25)}
		switch from.Intn(6) {
		case 0, 1, 2:
			i.Op = api.Push
		case 3:
			i.Op = []int{api.Load, api.Store, api.Store, api.Trap}[from.Intn(4)]
		}
		if k < 4 && from.Intn(9) > 0 {
			i.Op = api.Push
		}
		switch i.Op {
		case api.Push:
			i.A = drawnNumber(from)
		case api.Dup:
			i.A = from.Intn(3)
		case api.Jump, api.If, api.Call:
			i.A = from.Intn(len(l))
		case api.Trap:
			i.A = 1 + from.Intn(99)
		}
		l[k] = i
	}
	return l
}

// drawnText is some text of at most so many bytes.
func drawnText(from *rand.Rand, most int) string {
	out := make([]byte, from.Intn(most+1))
	from.Read(out)
	return string(out)
}

// call does one call that is drawn, of those that may be refused too; it tells
// how a run ended, if it was one.
func (x *pair) call(from *rand.Rand) int {
	x.t.Helper()
	switch from.Intn(12) {
	case 0, 1:
		fuel := 1 + from.Intn(60)
		if from.Intn(9) == 0 {
			fuel = edges[from.Intn(len(edges))]
			fuel = min(fuel, api.MaxFuel+1) // a loop by all the fuel would be long
			if fuel == api.MaxFuel {
				fuel++
			}
		}
		x.begin(drawnText(from, 9), fuel)
	case 2, 3, 4, 5:
		stop, _ := x.run(from.Intn(30) - 1)
		return stop.Kind
	case 6, 7:
		x.args(from.Intn(5) - 1)
	case 8:
		x.give(drawnNumber(from))
	case 9:
		if from.Intn(5) == 0 {
			x.end()
		}
	case 10:
		x.text(drawnNumber(from), drawnNumber(from))
	case 11:
		x.lay(drawnNumber(from), drawnText(from, 1+from.Intn(300)))
	}
	return 0
}

// Ep1 to Ep4 on calls that are drawn, with copies among them: each stands as the
// document says, whatever is done with the others.
func TestDrawn(t *testing.T) {
	from := rand.New(rand.NewSource(15))
	var ends [5]int
	for range 1500 {
		all := []*pair{made(t, drawnCode(from), drawnText(from, 4096*from.Intn(2)))}
		for range 60 {
			k := from.Intn(len(all))
			ends[all[k].call(from)]++
			if from.Intn(20) == 0 && len(all) < 5 {
				all = append(all, all[k].copy())
			}
			all[k].stands()
		}
		for _, x := range all {
			x.stands()
		}
	}
	if slices.Min(ends[1:]) < 300 {
		t.Error(ends)
	}
}

// deep is a text of instructions that puts so many numbers on the stack, from 1
// on, and then traps, again and again.
func deep(n int) string {
	var out strings.Builder
	for k := range n {
		fmt.Fprintf(&out, "push %d\n", k+1)
	}
	fmt.Fprintf(&out, "trap 5\njump %d\n", n)
	return out.String()
}

// upTo are the numbers from 1 on, so many.
func upTo(n int) []int {
	out := make([]int, n)
	for i := range out {
		out[i] = i + 1
	}
	return out
}
