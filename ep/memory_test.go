package ep_test

import (
	"cloister/api"
	"cloister/ep"
	"fmt"
	"math/rand"
	"slices"
	"strings"
	"testing"
	"unsafe"
)

// marked is an image whose bytes tell their places apart.
func marked() string {
	out := make([]byte, 4096)
	for i := range out {
		out[i] = byte(i + i/256*7)
	}
	return string(out)
}

// storing are instructions that store one byte, and halt.
func storing(at, x int) string {
	return fmt.Sprintf("push %d\npush %d\nstore\nhalt", x, at)
}

// Ep3: which parts Text tells, and Lay takes.
func TestParts(t *testing.T) {
	numbers := []int{least, least + 1, least + 4096, -1 << 32, -4097, -4096, -2, -1, 0, 1, 255, 256, 257, 2048, 4094, 4095, 4096, 4097, 8192, 1 << 31, 1 << 32, 1<<32 + 4096, greatest - 4096, greatest - 4095, greatest - 1, greatest}
	x := of(t, "halt", marked())
	for _, at := range numbers {
		for _, n := range numbers {
			s, ok := x.text(at, n)
			want := at >= 0 && n >= 0 && at <= 4096 && n <= 4096 && at+n <= 4096
			if ok != want || ok && s != marked()[at:at+n] || !ok && s != "" {
				t.Errorf("Text(%d, %d): %s, %v", at, n, shown(s), ok)
			}
			if n < 0 || n > 8192 {
				continue
			}
			c := of(t, "halt", marked())
			bytes := strings.Repeat("+", n)
			if ok := c.lay(at, bytes); ok != want {
				t.Errorf("Lay(%d, %d bytes): %v", at, n, ok)
			}
			if s, _ := c.p.Text(0, 4096); want && s != marked()[:at]+bytes+marked()[at+n:] || !want && s != marked() {
				t.Errorf("Lay(%d, %d bytes): %s", at, n, shown(s))
			}
			if !want {
				c.wantPages()
			}
			c.stands()
		}
	}
	// To look is not to store.
	x.wantPages()
}

// Ep3: sums of MaxMem, and of one more, at each place.
func TestSums(t *testing.T) {
	x := of(t, "halt", marked())
	for at := range 4098 {
		if s, ok := x.p.Text(at, 4096-at); ok != (at <= 4096) || ok && s != marked()[at:] {
			t.Fatal(at, shown(s), ok)
		}
		if s, ok := x.p.Text(at, 4097-at); s != "" || ok {
			t.Fatal(at, shown(s), ok)
		}
		if s, ok := x.p.Text(at, greatest-at); s != "" || ok {
			t.Fatal(at, shown(s), ok)
		}
		if s, ok := x.p.Text(greatest-at, at+1); s != "" || ok {
			t.Fatal(at, shown(s), ok)
		}
		if at <= 4096 && x.p.Lay(at, strings.Repeat("+", 4097-at)) {
			t.Fatal(at)
		}
	}
	x.wantPages()
	for at := 4096; at >= 0; at-- {
		if !x.lay(at, marked()[:4096-at]) {
			t.Fatal(at)
		}
	}
	x.wantPages(0, 1, 2, 3, 4, 5, 6, 7, 8, 9, 10, 11, 12, 13, 14, 15)
}

// Ep3: Lay of an empty text makes no page its own.
func TestLayNothing(t *testing.T) {
	x := of(t, "halt", marked())
	for _, at := range []int{0, 1, 255, 256, 4095, 4096} {
		if !x.lay(at, "") {
			t.Error(at)
		}
		x.wantPages()
	}
	for _, at := range []int{least, -4096, -1, 4097, 4098, 1 << 32, greatest} {
		if x.lay(at, "") {
			t.Error(at)
		}
		x.wantPages()
	}
}

// Ep3: which pages are its own, by Lay and by the machine.
func TestPages(t *testing.T) {
	pages := []int{0, 1, 2, 3, 4, 5, 6, 7, 8, 9, 10, 11, 12, 13, 14, 15}
	for _, c := range []struct{ at, n, first, last int }{
		{0, 1, 0, 0}, {255, 1, 0, 0}, {0, 256, 0, 0}, {255, 2, 0, 1}, {256, 1, 1, 1}, {0, 257, 0, 1}, {256, 256, 1, 1}, {511, 2, 1, 2}, {511, 258, 1, 3},
		{3839, 1, 14, 14}, {3839, 2, 14, 15}, {3840, 256, 15, 15}, {4095, 1, 15, 15}, {0, 4096, 0, 15}, {1, 4094, 0, 15}, {255, 3586, 0, 15}, {256, 3584, 1, 14},
	} {
		for _, s := range []string{strings.Repeat("\xaa", c.n), marked()[c.at : c.at+c.n]} {
			x := of(t, "halt", marked())
			if !x.lay(c.at, s) {
				t.Error(c)
			}
			x.wantPages(pages[c.first : c.last+1]...)
		}
	}
}

// Ep3: a page is its own as soon as the machine stored there, and not ahead.
func TestPagesByMachine(t *testing.T) {
	for _, at := range []int{0, 1, 255, 256, 257, 511, 512, 2048, 3839, 3840, 4094, 4095} {
		for _, b := range []int{int(marked()[at]), 200, 0, -1, 256, 511, least, greatest} {
			x := of(t, storing(at, b), marked())
			x.begin("", 4)
			x.wantRun(2, api.StopFuel, 0, 2)
			x.wantPages()
			x.wantRun(1, api.StopFuel, 0, 1)
			x.wantPages(at / 256)
			x.wantRun(1, api.StopHalt, 0, 1)
			x.wantPages(at / 256)
			if s, ok := x.p.Text(0, 4096); !ok || s != marked()[:at]+string([]byte{byte(b)})+marked()[at+1:] {
				t.Error(at, b, shown(s), ok)
			}
		}
	}
	// Without a place there is no page.
	for _, at := range []int{least, -4096, -257, -256, -255, -1, 4096, 4097, 1 << 32, greatest} {
		x := of(t, storing(at, 7), marked())
		x.begin("", 4)
		x.wantRun(4, api.StopFault, 0, 3)
		x.wantPages()
		if s, _ := x.p.Text(0, 4096); s != marked() {
			t.Error(at, shown(s))
		}
	}
}

// The machine loads what stands there: of the image, stored by it, laid.
func TestLoad(t *testing.T) {
	for at := range 4096 {
		p, _ := ep.New(parsed(t, fmt.Sprintf("push %d\nload\ntrap 1\npush %d\nload\ntrap 2\npush 130\npush %d\nstore\npush %d\nload\ntrap 3", at, at, at, at)), marked())
		loads := func(trap int, want byte) {
			t.Helper()
			stop, e := p.Run(99)
			l, e2 := p.Args(1)
			if stop.Kind != api.StopTrap || stop.Trap != trap || e != api.OK || e2 != api.OK || l[0] != int(want) {
				t.Fatal(at, stop, e, l, e2, want)
			}
		}
		p.Begin("", 99)
		loads(1, marked()[at])
		if len(p.Pages()) != 0 || !p.Lay(at, "\xff") {
			t.Fatal(at, p.Pages())
		}
		p.Give(0)
		loads(2, 255)
		p.Give(0)
		loads(3, 130)
		if s, ok := p.Text(at, 1); s != "\x82" || !ok || !slices.Equal(p.Pages(), []int{at / 256}) {
			t.Fatal(at, s, ok, p.Pages())
		}
	}
	for _, at := range []int{least, -1, 4096, 1 << 32, greatest} {
		x := of(t, fmt.Sprintf("push %d\nload\nhalt", at), marked())
		x.begin("", 9)
		x.wantRun(9, api.StopFault, 0, 2)
		x.wantPages()
	}
}

// Ep4: a request begins where the last one left the memory, however it ended,
// and with the pages that were its own.
func TestMemoryGoesOn(t *testing.T) {
	// It counts at 300 how often it was begun, and then ends in several ways.
	counting := "push 300\nload\npush 1\nadd\npush 300\nstore\n"
	for _, c := range []struct {
		text string
		fuel int
		end  bool
	}{
		{"halt", 99, false}, {"pop", 99, false}, {"", 99, false}, {"jump 6", 99, false}, {"jump 6", 6, false}, {"trap 1\nhalt", 99, true}, {"jump 6", 6, true},
	} {
		x := of(t, counting+c.text, "m")
		for k := range 5 {
			x.wantBegin("", c.fuel, api.OK)
			x.stands()
			x.run(99)
			if c.end {
				x.end()
			}
			x.is(none, "", 0)
			x.wantPages(1)
			if s, ok := x.p.Text(300, 1); s != string(rune(k+1)) || !ok {
				t.Errorf("%s: %q, %v", c.text, s, ok)
			}
		}
		// What is laid between two requests stands, too.
		x.lay(300, "\x50")
		x.lay(0, "z")
		x.begin("", c.fuel)
		x.run(99)
		if s, _ := x.text(300, 1); s != "\x51" {
			t.Errorf("%s: %q", c.text, s)
		}
		x.wantPages(0, 1)
	}
}

// Ep4: what one stores no other one of the same code and image sees.
func TestApart(t *testing.T) {
	l := parsed(t, "push 120\npush 0\nstore\npush 300\nload\ntrap 1\npush 300\nstore\nhalt")
	image := marked()
	var all []*pair
	for range 4 {
		all = append(all, made(t, l, image))
	}
	stand := func() {
		t.Helper()
		for _, x := range all {
			x.stands()
		}
	}
	all[0].begin("first", 90)
	stand()
	all[0].wantRun(9, api.StopTrap, 1, 6)
	stand()
	all[1].begin("second", 80)
	all[0].wantGive(1, api.OK)
	stand()
	all[0].wantRun(99, api.StopHalt, 0, 3)
	stand()
	all[1].wantRun(99, api.StopTrap, 1, 6)
	all[1].wantArgs(1, int(marked()[300]))
	all[2].lay(0, strings.Repeat("z", 4096))
	stand()
	all[3].lay(4095, "y")
	stand()
	all[0].wantPages(0, 1)
	all[1].wantPages(0)
	all[3].wantPages(15)
	all[1].wantGive(9, api.OK)
	all[1].wantRun(9, api.StopHalt, 0, 3)
	all[1].wantPages(0, 1)
	stand()
}

// Ep4, R4: a copy stands as the first one does: its memory, its pages, its
// request; and from then on each goes its own way.
func TestCopy(t *testing.T) {
	text := "push 65\npush 0\nstore\npush 66\npush 300\nstore\npush 4\ncall 8\ntrap 7\npush 400\nstore\nret"
	// All places at which a request may stand.
	for steps := range 12 {
		x := of(t, text, marked())
		x.lay(600, "laid")
		if steps > 0 {
			x.begin("in", 40)
		}
		for range steps - 1 {
			x.run(1)
		}
		all := []*pair{x, x.copy(), x.copy()}
		all = append(all, all[1].copy())
		ways := []func(x *pair){
			func(x *pair) { x.lay(600, "LAID"); x.lay(1000, "more"); x.run(40); x.give(9); x.run(40) },
			func(x *pair) { x.run(1); x.run(1) },
			func(x *pair) { x.args(1); x.end(); x.begin("other", 20); x.run(3) },
			func(x *pair) {
				x.give(3)
				x.lay(0, "z")
				x.run(40)
				x.args(1)
				x.give(5)
				x.run(3)
			},
		}
		for k, way := range ways {
			way(all[k])
			for _, y := range all {
				y.stands()
			}
		}
		for k := range ways {
			ways[3-k](all[k])
			for _, y := range all {
				y.stands()
			}
		}
	}
}

// Ep4: of a page that is its own and one that is not, in the first one and in
// its copy, each store is seen by that one alone.
func TestCopyStores(t *testing.T) {
	for _, own := range []bool{false, true} {
		for _, copyFirst := range []bool{false, true} {
			x := of(t, storing(256, 77), marked())
			if own {
				x.lay(300, "own")
			}
			y := x.copy()
			first, second := x, y
			if copyFirst {
				first, second = y, x
			}
			first.begin("", 9)
			first.run(9)
			first.lay(302, "+")
			first.stands()
			second.stands()
			second.lay(302, "-")
			second.lay(256, "=")
			first.stands()
			second.stands()
			if a, _ := first.p.Text(256, 47); a[0] != 77 || a[46] != '+' {
				t.Errorf("%q", a)
			}
			first.wantPages(1)
			second.wantPages(1)
		}
	}
}

// spoil changes all that a list has, and the room behind it.
func spoil[T any](l []T, x T) {
	for i := range l[:cap(l)] {
		l[:cap(l)][i] = x
	}
}

// R3: code that was handed in is not changed, not read beyond its end, not kept.
func TestCodeNotKept(t *testing.T) {
	l := parsed(t, "push 4\ntrap 7\npop\npop\nhalt")
	behind := append(slices.Clone(l), api.Instr{Op: -1}, api.Instr{Op: api.Halt})
	handed := slices.Clone(behind)[:len(l)]
	x := made(t, handed, "m")
	y := x.copy()
	x.begin("a", 50)
	x.wantRun(9, api.StopTrap, 7, 2)
	if !slices.Equal(handed[:cap(handed)][:len(behind)], behind) {
		t.Error("the code is changed")
	}
	spoil(handed, api.Instr{Op: api.Trap, A: 99})
	x.wantGive(1, api.OK)
	x.wantRun(9, api.StopHalt, 0, 3)
	y.begin("a", 50)
	y.wantRun(9, api.StopTrap, 7, 2)
	// The room behind its end does not count for how many there are.
	halts := slices.Repeat([]api.Instr{{Op: api.Halt}}, 2000)
	made(t, halts[:1024], "")
	made(t, append(halts[:1:1], api.Instr{Op: -1})[:1], "")
}

// R3: lists that were handed out are nobody else's.
func TestListsAreNew(t *testing.T) {
	x := of(t, deep(20), "")
	x.lay(0, "a")
	x.lay(4000, "b")
	x.begin("a", 900)
	x.wantRun(99, api.StopTrap, 5, 21)
	for n := range 6 {
		a, e := x.args(n)
		if e != api.OK {
			t.Fatal(e)
		}
		pages, more := x.p.Pages(), x.p.Pages()
		spoil(a, -7)
		spoil(pages, -8)
		if !slices.Equal(more, []int{0, 15}) {
			t.Error("two lists of pages share memory")
		}
		x.stands()
		x.wantGive(n, api.OK)
		x.wantRun(2, api.StopTrap, 5, 2)
	}
	x.wantArgs(11, 1, 2, 3, 4, 5, 6, 7, 8, 9, 10, 5)
	x.wantNoArgs(1, api.ErrNone)
}

// overlaps tells whether two texts share memory.
func overlaps(a, b string) bool {
	if len(a) < 2 || len(b) < 2 { // of a single byte there is one text for all
		return false
	}
	p, q := uintptr(unsafe.Pointer(unsafe.StringData(a))), uintptr(unsafe.Pointer(unsafe.StringData(b)))
	return p < q+uintptr(len(b)) && q < p+uintptr(len(a))
}

// R3, of texts: what is handed in is not kept, and what is answered is new.
func TestTextsAreNew(t *testing.T) {
	image, input, laid := []byte(marked()), []byte(strings.Repeat("input", 99)), []byte(strings.Repeat("laid", 99))
	view := func(b []byte) string { return unsafe.String(&b[0], len(b)) }
	l := parsed(t, "halt")
	p, _ := ep.New(l, view(image))
	b := toldOf(l, string(image))
	p.Begin(view(input), 9)
	b.begin(string(input), 9)
	p.Lay(100, view(laid))
	b.lay(100, string(laid))
	for _, argument := range [][]byte{image, input, laid} {
		spoil(argument, '!')
	}
	x := &pair{t: t, p: p, b: b}
	x.stands()
	c := x.copy()
	var all []string
	for range 2 {
		for _, y := range []*pair{x, c} {
			whole, _ := y.p.Text(0, 4096)
			part, _ := y.p.Text(90, 300)
			for _, text := range []string{y.p.Input(), whole, part} {
				if slices.ContainsFunc(all, func(other string) bool { return overlaps(text, other) }) {
					t.Errorf("%s is not new", shown(text))
				}
				all = append(all, text)
			}
		}
	}
}

// R4: many at one time answer as one alone does, also copies of one.
func TestTogether(t *testing.T) {
	first := of(t, "push 65\npush 0\nstore\npush 4\ntrap 7\npush 300\nstore\njump 0", marked())
	first.lay(1000, "own")
	first.begin("in", 500)
	first.run(2)
	t.Run("all", func(t *testing.T) {
		for k := range 16 {
			t.Run(fmt.Sprint(k), func(t *testing.T) {
				t.Parallel()
				from := rand.New(rand.NewSource(int64(k)))
				other := &pair{t: t, p: first.p.Copy(), b: first.b.copy()}
				for _, x := range []*pair{other, made(t, first.b.code, marked())} {
					for range 200 {
						x.call(from)
					}
					x.stands()
				}
			})
		}
	})
	first.is(goesOn, "in", 498)
	first.wantPages(3)
}

// R4: the same calls tell the same again.
func TestAgain(t *testing.T) {
	l := parsed(t, "push 300\nload\npush 1\nadd\ndup 0\npush 300\nstore\ntrap 9\npush 5\nless\nif 0\nhalt")
	var first []string
	for round := range 5 {
		p, _ := ep.New(l, marked())
		var notes []string
		for range 20 {
			e := p.Begin("in", 200)
			stop, e2 := p.Run(50)
			numbers, e3 := p.Args(1)
			notes = append(notes, fmt.Sprint(e, stop, e2, numbers, e3, p.Give(3), p.Busy(), p.Fuel(), p.Input(), p.Pages()))
		}
		if round == 0 {
			first = notes
		} else if !slices.Equal(notes, first) {
			t.Error("another round tells something else:", round)
		}
	}
}
