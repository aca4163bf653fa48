package port_test

import (
	"cloister/api"
	"fmt"
	"slices"
	"strings"
	"testing"
	"unsafe"
)

// spoil changes all that a list has, and the room behind it.
func spoil(l []int) {
	for i := range l[:cap(l)] {
		l[:cap(l)][i] = -7
	}
}

// roomy is a list with others behind its end.
func roomy(l []int, behind ...int) []int {
	return append(slices.Clone(l), behind...)[:len(l)]
}

// whole are copies of a subject's lists, with the room behind them.
func whole(s api.Subject) [][]int {
	var out [][]int
	for _, l := range [][]int{s.Label.S, s.Label.I, s.Own} {
		out = append(out, slices.Clone(l[:cap(l)]))
	}
	return out
}

func same(a, b [][]int) bool { return slices.EqualFunc(a, b, slices.Equal) }

// R3: lists that are handed in are not changed, not read beyond their end, not
// kept; those that are handed out are nobody else's.
func TestLists(t *testing.T) {
	for seed := range int64(40) {
		d := draws(seed, 3)
		x := made(t, 3, 4)
		for range 200 {
			s := d.subject()
			s.Label.S, s.Label.I, s.Own = roomy(s.Label.S, 1, 2, 9, 0), roomy(s.Label.I, 8, 0, -1), roomy(s.Own, 1, 2, 3, 4, 5, 6, 7, 8, 0)
			before := whole(s)
			uses, _ := x.send(s, d.to(), d.text(), d.Intn(4) > 0)
			if !same(before, whole(s)) {
				t.Fatal("an argument is changed:", shown(s))
			}
			spoil(uses)
			if !same(before, whole(s)) {
				t.Fatal("an answer and an argument share memory:", shown(s))
			}
			spoil(s.Label.S)
			spoil(s.Label.I)
			spoil(s.Own)
			x.stands()
			if d.Intn(3) == 0 {
				x.take(d.to())
			}
		}
		x.stands()
	}
}

// R3: what is told is new each time, also when all of the secrecy is lacking,
// all of it is owned, and one list is handed in twice.
func TestToldIsNew(t *testing.T) {
	x := made(t, 2, 64)
	one := upTo(64)
	s := api.Subject{Label: api.Label{S: one, I: one}, Own: one}
	first, _ := x.send(s, 1, "a", true)
	second, _ := x.send(s, 1, "a", true)
	spoil(first)
	if !slices.Equal(one, upTo(64)) || !slices.Equal(second, append([]int{1, 2}, upTo(64)[3:]...)) {
		t.Error(one, second)
	}
	spoil(second)
	if third, _ := x.send(s, 1, "a", true); !slices.Equal(one, upTo(64)) || len(third) != 63 {
		t.Error(one, third)
	}
	x.stands()
	// No room behind the answer is anybody's either.
	all := []int{5, 7, 9}
	for range 3 {
		told, _ := x.send(from(0, all, all...), 0, "b", true)
		_ = append(told, 11)
		_ = append(told[:1], 12, 13)
		if !slices.Equal(all, []int{5, 7, 9}) {
			t.Error(all)
		}
	}
	x.stands()
}

// R3: nil and the empty list are the same.
func TestNilAndEmpty(t *testing.T) {
	lists := [][]int{nil, {}, roomy(nil, 1, 0)}
	for _, s := range lists {
		for _, i := range lists {
			for _, own := range lists {
				x := made(t, 2, 2)
				x.wantSend(api.Subject{Label: api.Label{S: s, I: i}, Own: own}, 1, "a", true)
				x.wantSend(api.Subject{Label: api.Label{S: s, I: i}, Own: own}, 1, "b", false)
				x.wantTake(1, 0, "a")
				x.wantTake(1, 0, "b")
			}
		}
	}
}

// overlaps tells whether two texts share memory.
func overlaps(a, b string) bool {
	if len(a) < 2 || len(b) < 2 { // of a single byte there is one text for all
		return false
	}
	p, q := uintptr(unsafe.Pointer(unsafe.StringData(a))), uintptr(unsafe.Pointer(unsafe.StringData(b)))
	return p < q+uintptr(len(b)) && q < p+uintptr(len(a))
}

// R3, of texts: the bytes behind one that was handed in are changed afterwards;
// the message is what it was.
func TestTextsNotKept(t *testing.T) {
	for _, n := range []int{1, 2, 9, 31, 32, 33, 100, 1024} {
		x := made(t, 2, 64)
		bytes := make([]byte, n)
		for i := range bytes {
			bytes[i] = byte('a' + i%26)
		}
		want := string(bytes)
		text := unsafe.String(&bytes[0], n)
		if _, e := x.p.Send(from(0, nil), 1, text, false); e != api.OK {
			t.Fatal(e)
		}
		c := x.p.Copy()
		for i := range bytes {
			bytes[i] = '!'
		}
		if m, ok := x.p.Take(1); m.Text != want || m.From != 0 || !ok {
			t.Error(n, shown(m), ok)
		}
		if m, ok := c.Take(1); m.Text != want || m.From != 0 || !ok {
			t.Error(n, shown(m), ok)
		}
	}
}

// R3, of texts: those that are taken out are new, of a copy too.
func TestTextsAreNew(t *testing.T) {
	text := strings.Repeat("text", 9)
	x := made(t, 2, 64)
	x.wantSend(from(0, nil), 0, text, false)
	x.wantSend(from(0, nil), 1, text, false)
	x.wantSend(from(0, nil), 1, text, false)
	texts := []string{text}
	for _, one := range []*pair{x.copy(), x.copy().copy(), x} {
		for _, who := range []int{0, 1, 1} {
			m, ok := one.take(who)
			if !ok || m.Text != text {
				t.Fatal(shown(m), ok)
			}
			for k, other := range texts {
				if overlaps(m.Text, other) {
					t.Error("shared with", k)
				}
			}
			texts = append(texts, m.Text)
		}
	}
}

// R4: a copy stands as the mailboxes do, with their users and their room, and
// each goes its own way from then on.
func TestCopy(t *testing.T) {
	for _, room := range []int{1, 2, 64} {
		for _, users := range []int{1, 2, 16} {
			x := made(t, users, room)
			fill(x.copy(), room)
			for i := range room - 1 {
				x.wantSend(from(0, nil), users-1, fmt.Sprint(i), false)
			}
			c := x.copy()
			x.wantSend(from(0, nil), users-1, "first", false)
			c.lens()
			c.wantSend(from(0, nil), users-1, "copy", false)
			d := c.copy()
			c.wantSend(from(0, nil), users-1, "dropped", false)
			x.wantSend(from(0, nil), users-1, "dropped", false)
			x.stands()
			c.stands()
			d.stands()
			c.empty()
			x.stands()
			d.stands()
			d.wantRefused(from(0, nil), users, "", api.ErrArg)
			for i := range room - 1 {
				x.wantTake(users-1, 0, fmt.Sprint(i))
				d.wantTake(users-1, 0, fmt.Sprint(i))
			}
			x.wantTake(users-1, 0, "first")
			d.wantTake(users-1, 0, "copy")
			x.wantNone(users - 1)
			d.wantNone(users - 1)
			fill(c, room)
		}
	}
}

// R4: copies and copies of these, each changed behind the others' backs.
func TestCopiesDrawn(t *testing.T) {
	for seed := range int64(40) {
		d := draws(seed, 3)
		all := []*pair{made(t, 3, 1+d.Intn(5))}
		for range 6 {
			for range 60 {
				d.call(all[d.Intn(len(all))])
			}
			all = append(all, all[d.Intn(len(all))].copy())
			for _, one := range all {
				one.stands()
			}
		}
		for _, one := range all {
			one.empty()
		}
	}
}

// R4: mailboxes know nothing of one another, at one time too.
func TestObjectsApart(t *testing.T) {
	first := made(t, 3, 5)
	for seed := range int64(50) {
		draws(seed, 3).call(first)
	}
	for k := range int64(8) {
		c := first.copy()
		t.Run(fmt.Sprint(k), func(t *testing.T) {
			t.Parallel()
			c.t = t
			d, x := draws(k/2, 3), made(t, 3, 5)
			for range 300 {
				d.call(x)
				d.call(c)
			}
			x.stands()
			c.stands()
		})
	}
	first.stands()
}

// R4: the same calls answer the same.
func TestAgain(t *testing.T) {
	for seed := range int64(10) {
		var answers [2]string
		for k := range answers {
			d, x := draws(seed, 4), made(t, 4, 3)
			for range 200 {
				u, e := x.send(d.subject(), d.to(), d.text(), true)
				m, ok := x.take(d.to())
				answers[k] += fmt.Sprint(u, e, m, ok)
			}
		}
		if answers[0] != answers[1] {
			t.Error(seed)
		}
	}
}
