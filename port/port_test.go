package port_test

import (
	"cloister/api"
	"cloister/port"
	"fmt"
	"slices"
	"strings"
	"testing"
)

func TestExample(t *testing.T) {
	x := made(t, 2, 64)
	s := from(0, []int{1}, 1)
	x.wantSend(s, 1, "a", true, 1)
	x.wantLens(0, 1)
	x.wantSend(s, 1, "b", false)
	x.wantLens(0, 1)
	x.wantSend(s, 0, "c", false)
	x.wantLens(1, 1)
	x.wantTake(1, 0, "a")
	x.wantNone(1)
	x.wantTake(0, 0, "c")
	x.wantNone(0)
}

func TestLimits(t *testing.T) {
	if api.MaxUsers != 16 || api.MaxMail != 64 || api.MaxText != 1024 {
		t.Error(api.MaxUsers, api.MaxMail, api.MaxText)
	}
}

// Po1: of which users and rooms there are mailboxes.
func TestNew(t *testing.T) {
	users := []int{least, -16, -1, 0, 1, 2, 15, 16, 17, 32, 1<<32 + 1, greatest}
	rooms := []int{least, -64, -1, 0, 1, 2, 63, 64, 65, 1 << 16, 1<<32 + 1, greatest}
	for _, n := range users {
		for _, room := range rooms {
			p, e := port.New(n, room)
			if n < 1 || n > 16 || room < 1 || room > 64 {
				if p != nil || e != api.ErrArg {
					t.Errorf("New(%d, %d): %v, %v", n, room, p, e)
				}
				continue
			}
			if p == nil || e != api.OK {
				t.Fatalf("New(%d, %d): %v, %v", n, room, p, e)
			}
			x := &pair{t: t, p: p, b: &told{users: n, room: room}}
			x.stands()
			fill(x, room)
		}
	}
}

// fill fills each mailbox beyond its room, and takes all out.
func fill(x *pair, room int) {
	x.t.Helper()
	for who := range x.b.users {
		for i := range room + 2 {
			x.wantSend(from(x.b.users-1, nil), who, fmt.Sprint(who, i), false)
			if n := x.p.Len(who); n != min(i+1, room) {
				x.t.Fatalf("Len(%d): %d, behind %d", who, n, i+1)
			}
		}
		x.lens()
	}
	x.wantRefused(from(0, nil), x.b.users, "", api.ErrArg)
	for who := range x.b.users {
		for i := range room {
			x.wantTake(who, x.b.users-1, fmt.Sprint(who, i))
		}
		x.wantNone(who)
		x.lens()
	}
}

// Po1: who may send, and to whom.
func TestSendUsers(t *testing.T) {
	for _, users := range []int{1, 2, 15, 16} {
		x := made(t, users, 64)
		numbers := []int{least, -2, -1, 0, users - 1, users, users + 1, 16, 17, 1 << 32, greatest}
		for _, who := range numbers {
			for _, to := range numbers {
				s := from(who, nil)
				if who >= 0 && who < users && to >= 0 && to < users {
					x.wantSend(s, to, fmt.Sprint(who, to), false)
					x.stands()
				} else {
					x.wantRefused(s, to, "a", api.ErrArg)
				}
			}
		}
		for who := range users {
			for to := range users {
				x.wantSend(from(who, nil), to, "all", who%2 == 0)
			}
		}
		x.stands()
		x.empty()
	}
}

// Po1: what may be owned; a set may be of any length.
func TestOwn(t *testing.T) {
	x := made(t, 2, 64)
	for _, own := range badSets() {
		x.wantRefused(from(0, nil, own...), 1, "a", api.ErrArg)
		x.wantRefused(from(0, []int{1}, own...), 1, "a", api.ErrArg)
		x.wantRefused(from(0, []int{1}, own...), 0, "a", api.ErrArg)
	}
	sets := append(goodSets(), upTo(65), upTo(100), append(upTo(1000), lastCat), upTo(3000))
	for _, own := range sets {
		x = made(t, 2, 64)
		x.wantSend(from(0, nil, own...), 1, "a", true)
		x.wantSend(from(0, nil, own...), 1, "b", false)
		x.wantLens(0, 2)
		if len(own) > 0 {
			last := own[len(own)-1]
			x.wantSend(from(1, []int{last}, own...), 0, "c", true, lacking(from(1, []int{last}), 0)...)
			x.stands()
		}
	}
}

// Po1: which labels may be.
func TestLabels(t *testing.T) {
	x := made(t, 2, 64)
	bad := append(badSets(), upTo(65), upTo(200), append(upTo(64), lastCat))
	for _, l := range bad {
		for _, good := range [][]int{nil, {1}, upTo(64)} {
			for _, s := range []api.Subject{
				{Label: api.Label{S: l, I: good}}, {Label: api.Label{S: good, I: l}}, {Label: api.Label{S: l, I: l}},
			} {
				x.wantRefused(s, 1, "a", api.ErrLabel)
				s.Own = append(upTo(200), lastCat)
				x.wantRefused(s, 0, "a", api.ErrLabel)
			}
		}
	}
	x.wantLens(0, 0)
	all := append(upTo(64), lastCat-1, lastCat)
	for _, s := range goodSets() {
		for _, i := range goodSets() {
			x = made(t, 2, 2)
			one := api.Subject{Label: api.Label{S: s, I: i}, Own: all}
			x.wantSend(one, 1, "a", true, lacking(one, 1)...)
			x.wantLens(0, 1)
			x.wantTake(1, 0, "a")
			x.send(one, 0, "b", false)
			x.stands()
		}
	}
}

// Po1: a text's length is that of its bytes, whatever they are.
func TestTexts(t *testing.T) {
	every := make([]byte, 256)
	for i := range every {
		every[i] = byte(i)
	}
	x := made(t, 3, 64)
	for _, text := range []string{
		"", "a", "\x00", "\xff", "\r\n", "ä", string(every), strings.Repeat("a", 1023), strings.Repeat("a", 1024), strings.Repeat("\x00", 1024),
		strings.Repeat("ä", 512), strings.Repeat("\xff", 1024), strings.Repeat(string(every), 4),
	} {
		x.wantSend(from(1, nil), 2, text, false)
		x.wantSend(from(2, []int{7}, 7), 0, text, true, 7)
		x.stands()
		x.wantTake(2, 1, text)
		x.wantTake(0, 2, text)
		x.wantNone(0)
		x.wantNone(2)
	}
	for _, text := range []string{
		strings.Repeat("a", 1025), strings.Repeat("\x00", 1025), strings.Repeat("ä", 512) + "a", strings.Repeat("ä", 1024), strings.Repeat("a", 1<<20),
	} {
		// Also a message that would come, that would not, that would be dropped.
		x.wantRefused(from(1, nil), 2, text, api.ErrLong)
		x.wantRefused(from(1, []int{7}, 7), 2, text, api.ErrLong)
		x.wantRefused(from(1, []int{7}), 2, text, api.ErrLong)
	}
	x.wantLens(0, 0, 0)
	x = made(t, 1, 1)
	x.wantSend(from(0, nil), 0, "full", false)
	x.wantRefused(from(0, nil), 0, strings.Repeat("a", 1025), api.ErrLong)
	x.wantSend(from(0, nil), 0, strings.Repeat("a", 1024), false)
	x.wantTake(0, 0, "full")
	x.wantNone(0)
}

// R2: of all that is wrong at one time the first is answered, and nothing is
// changed by it.
func TestErrorsInOrder(t *testing.T) {
	for faults := range 1 << 6 {
		has := func(i int) bool { return faults>>i&1 == 1 }
		x := made(t, 2, 3)
		x.wantSend(from(1, nil), 1, "ahead", false)
		s, to, text := from(0, []int{1}, 1), 1, strings.Repeat("t", 1024)
		want := api.OK
		if has(0) {
			text, want = strings.Repeat("t", 1025), api.ErrLong
		}
		if has(1) {
			s.Label.I, want = []int{2, 2}, api.ErrLabel
		}
		if has(2) {
			s.Label.S, want = upTo(65), api.ErrLabel
		}
		if has(3) {
			s.Own, want = []int{1, 0}, api.ErrArg
		}
		if has(4) {
			to, want = 2, api.ErrArg
		}
		if has(5) {
			s.Who, want = -1, api.ErrArg
		}
		if want == api.OK {
			x.wantSend(s, to, text, true, 1)
			x.wantLens(0, 2)
		} else {
			x.wantRefused(s, to, text, want)
			x.wantLens(0, 1)
		}
		x.wantTake(1, 1, "ahead")
	}
}

// Po1: what lacks nothing, lacks and owns in part, lacks and owns whole, each
// open and not.
func TestLacks(t *testing.T) {
	for _, c := range []struct {
		s, own     []int
		to         int
		told       []int // what an open one tells
		open, shut bool  // whether it comes
	}{
		// Nothing is lacking.
		{nil, nil, 1, nil, true, true},
		{nil, []int{3}, 1, nil, true, true},
		{[]int{3}, nil, 1, nil, true, true},
		{[]int{3}, []int{3}, 1, nil, true, true},
		{[]int{1}, []int{1, 2, 3}, 0, nil, true, true},
		{[]int{31}, nil, 15, nil, true, true},
		// What is lacking is not owned.
		{[]int{1}, nil, 1, nil, false, false},
		{[]int{1}, []int{2}, 1, nil, false, false},
		{[]int{1}, []int{3}, 1, nil, false, false},
		{[]int{4}, []int{3}, 1, nil, false, false},
		{[]int{4}, []int{3}, 2, nil, false, false},
		{[]int{1, 3}, []int{3}, 1, nil, false, false},
		{[]int{3, 5}, nil, 1, nil, false, false},
		{[]int{31}, []int{30, 32}, 14, nil, false, false},
		{[]int{lastCat}, []int{lastCat - 1}, 1, nil, false, false},
		// It is owned in part.
		{[]int{1, 5}, []int{1}, 1, nil, false, false},
		{[]int{1, 5}, []int{5}, 1, nil, false, false},
		{[]int{1, 3, 5}, []int{1, 3}, 1, nil, false, false},
		{[]int{1, 3, 5}, []int{3, 5}, 1, nil, false, false},
		{[]int{1, 5, lastCat}, []int{1, 5}, 1, nil, false, false},
		{upTo(64), upTo(63), 1, nil, false, false},
		{upTo(64), upTo(64)[1:], 1, nil, false, false},
		// It is owned whole.
		{[]int{1}, []int{1}, 1, []int{1}, true, false},
		{[]int{2}, []int{2}, 1, []int{2}, true, false},
		{[]int{1, 3}, []int{1}, 1, []int{1}, true, false},
		{[]int{3, 5}, []int{5}, 1, []int{5}, true, false},
		{[]int{1, 3, 5}, []int{1, 5}, 1, []int{1, 5}, true, false},
		{[]int{1, 3, 5}, []int{1, 2, 3, 4, 5, 6}, 1, []int{1, 5}, true, false},
		{[]int{1, 3, 5}, []int{1, 3, 5}, 3, []int{1, 3, 5}, true, false},
		{[]int{31, 1000, lastCat}, []int{1000, lastCat}, 15, []int{1000, lastCat}, true, false},
		{upTo(64), upTo(64), 0, upTo(64)[1:], true, false},
		{upTo(64), upTo(200), 1, append([]int{1, 2}, upTo(64)[3:]...), true, false},
	} {
		for _, i := range [][]int{nil, {1}, {3}, {4}, {1, 2, 3, 4, 5}, upTo(64), {lastCat}} {
			for _, open := range []bool{true, false} {
				x := made(t, 16, 64)
				s := api.Subject{Who: 5, Label: api.Label{S: c.s, I: i}, Own: c.own}
				comes, want := c.shut, []int(nil)
				if open {
					comes, want = c.open, c.told
				}
				x.wantSend(s, c.to, "text", open, want...)
				x.lens()
				if comes {
					x.wantTake(c.to, 5, "text")
				}
				x.wantNone(c.to)
				x.empty()
			}
		}
	}
}

// Po1, by all small secrecies and all that may be owned of them.
func TestAllSmall(t *testing.T) {
	for s := range 64 {
		for own := range 64 {
			for to := range 3 {
				x := made(t, 3, 64)
				one := from(2, bits(s), bits(own)...)
				lacks := s &^ (1 << (2 * to))
				x.wantSend(one, to, "shut", false)
				if lacks&^own == 0 {
					x.wantSend(one, to, "open", true, bits(lacks)...)
				} else {
					x.wantSend(one, to, "open", true)
				}
				if lacks == 0 {
					x.wantTake(to, 2, "shut")
				}
				if lacks&^own == 0 {
					x.wantTake(to, 2, "open")
				}
				x.wantNone(to)
				x.empty()
			}
		}
	}
}

// A user's secrecy is that of its mailbox, of each number, and of no other.
func TestSecrecies(t *testing.T) {
	for c := 1; c <= 40; c++ {
		x := made(t, 16, 64)
		for to := range 16 {
			x.wantSend(from(3, []int{c}), to, "x", false)
			x.wantSend(from(3, []int{c}), to, "x", true)
			want := 0
			if c == 2*to+1 {
				want = 2
			}
			if n := x.p.Len(to); n != want {
				t.Errorf("secrecy %d to %d: %d wait", c, to, n)
			}
		}
	}
	// It hangs neither on who sends, nor on how many users there are.
	for users := 1; users <= 16; users++ {
		x := made(t, users, 64)
		for who := range users {
			x.wantSend(from(who, []int{2*users - 1}), users-1, "x", false)
			x.wantSend(from(users-1, []int{2*who + 1}), who, "y", false)
		}
		x.lens()
		if n := x.p.Len(users - 1); n != users+1 {
			t.Error(users, n)
		}
	}
}

// Po1: one place is left; then none is: what is dropped tells what it used all
// the same.
func TestFull(t *testing.T) {
	for _, room := range []int{1, 2, 3, 63, 64} {
		x := made(t, 3, room)
		opens := from(0, []int{1, 3, 7}, 1, 7)
		for i := range room - 1 {
			x.wantSend(from(2, nil), 1, fmt.Sprint(i), false)
		}
		x.wantLens(0, room-1)
		x.wantSend(opens, 1, "not open", false)
		x.wantSend(from(0, []int{1, 3, 7}, 1), 1, "not owned", true)
		x.wantLens(0, room-1)
		x.wantSend(opens, 1, "last", true, 1, 7)
		x.wantLens(0, room)
		x.stands()
		for range 3 {
			x.wantSend(opens, 1, "dropped", true, 1, 7)
			x.wantSend(opens, 1, "not open", false)
			x.wantSend(from(0, []int{1, 3, 7}, 1), 1, "not owned", true)
			x.wantSend(from(1, []int{3}, 3), 1, "dropped too", true)
			x.wantSend(from(1, []int{3}, 3), 1, "dropped too", false)
			x.wantRefused(from(0, nil, 0), 1, "refused", api.ErrArg)
			x.wantLens(0, room, 0)
			x.stands()
		}
		// Another one's has room yet.
		x.wantSend(from(0, []int{1, 3, 7}, 1, 3, 7), 2, "other", true, 1, 3, 7)
		x.wantLens(0, room, 1)
		// What goes out makes room for one, that comes last.
		first, who := "0", 2
		if room == 1 {
			first, who = "last", 0
		}
		x.wantTake(1, who, first)
		x.wantLens(0, room-1)
		x.wantSend(opens, 1, "behind", true, 1, 7)
		x.wantSend(opens, 1, "dropped", true, 1, 7)
		x.wantLens(0, room)
		for i := 1; i < room-1; i++ {
			x.wantTake(1, 2, fmt.Sprint(i))
		}
		if room > 1 {
			x.wantTake(1, 0, "last")
		}
		x.wantTake(1, 0, "behind")
		x.wantNone(1)
		x.wantTake(2, 0, "other")
		x.wantNone(2)
	}
}

// Nobody is told whether a message came: what Send answers is the same for a
// mailbox that is empty and one that is full.
func TestNobodyIsTold(t *testing.T) {
	for seed := range int64(20) {
		d := draws(seed, 3)
		empty, full := made(t, 3, 2), made(t, 3, 2)
		for to := range 3 {
			full.wantSend(from(0, nil), to, "a", false)
			full.wantSend(from(0, nil), to, "b", false)
		}
		for range 200 {
			s, to, text, open := d.subject(), d.to(), d.text(), d.Intn(2) == 0
			u, e := empty.send(s, to, text, open)
			v, f := full.send(s, to, text, open)
			if !slices.Equal(u, v) || e != f {
				t.Fatal(shown(s), to, open, u, e, v, f)
			}
			empty.empty()
		}
		full.wantLens(2, 2, 2)
	}
}

// Po2: users that are none, and none that wait.
func TestTakeUsers(t *testing.T) {
	for _, users := range []int{1, 2, 16} {
		for _, waiting := range []bool{false, true} {
			x := made(t, users, 3)
			if waiting {
				for to := range users {
					x.wantSend(from(0, nil), to, "a", false)
					x.wantSend(from(users-1, nil), to, "b", false)
				}
			}
			for _, who := range []int{least, -16, -2, -1, users, users + 1, 16, 17, 31, 1 << 32, greatest} {
				x.wantNone(who)
				if n := x.p.Len(who); n != 0 {
					t.Errorf("Len(%d): %d", who, n)
				}
				x.stands()
			}
			for who := range users {
				if waiting {
					x.wantTake(who, 0, "a")
					x.stands()
					x.wantTake(who, users-1, "b")
					x.stands()
				}
				x.wantNone(who)
				x.wantNone(who)
				x.stands()
			}
			// What finds nothing breaks nothing.
			x.wantSend(from(0, nil), users-1, "c", false)
			x.wantTake(users-1, 0, "c")
		}
	}
}

// Po2: whoever waits longest goes out first, while others come behind; the same
// message as often as it came.
func TestOrder(t *testing.T) {
	for _, room := range []int{1, 2, 3, 7, 64} {
		x := made(t, 2, room)
		next, out := 0, 0
		for turn := range 60 {
			for range turn*5%(room+2) + 1 {
				before := x.p.Len(1)
				x.wantSend(from(next%2, nil), 1, fmt.Sprint(next), false)
				if before < room {
					next++
				}
			}
			for range turn*3%(room+2) + 1 {
				if out == next {
					x.wantNone(1)
					continue
				}
				x.wantTake(1, out%2, fmt.Sprint(out))
				out++
			}
			x.wantLens(0, next-out)
		}
		x.stands()
	}
	x := made(t, 1, 64)
	for i := range 64 {
		x.wantSend(from(0, nil), 0, "same", false)
		x.wantLens(i + 1)
	}
	for i := range 64 {
		x.wantTake(0, 0, "same")
		x.wantLens(63 - i)
	}
	x.wantNone(0)
}

// Po3: messages of many senders to many mailboxes, in turns.
func TestManyInTurns(t *testing.T) {
	x := made(t, 16, 64)
	for turn := range 4 {
		for who := range 16 {
			for to := range 16 {
				open := (who+to+turn)%3 > 0
				s := from(who, []int{2*who + 1}, 2*who+1, 2*who+2)
				switch {
				case who == to:
					x.wantSend(s, to, fmt.Sprint(who, turn), open)
				case open:
					x.wantSend(s, to, fmt.Sprint(who, turn), true, 2*who+1)
				default:
					x.wantSend(s, to, fmt.Sprint(who, turn), false)
				}
			}
		}
		x.stands()
		for to := 15; to >= 0; to -= 2 {
			for range turn + 1 {
				x.take(to)
			}
		}
	}
	x.stands()
	// In the order in which they came, over all senders.
	for turn := range 4 {
		for who := range 16 {
			if who == 0 || (who+turn)%3 > 0 {
				x.wantTake(0, who, fmt.Sprint(who, turn))
			}
		}
	}
	x.wantNone(0)
	x.empty()
}

// Po1 to Po3, by calls that are drawn.
func TestDrawn(t *testing.T) {
	for seed := range int64(150) {
		users := int(seed%16) + 1
		d := draws(seed, users)
		x := made(t, users, 1+d.Intn(6))
		for range 400 {
			d.call(x)
		}
		x.stands()
		x.empty()
	}
}

// Po3: what comes to another user's mailbox out of a secrecy is told, and is
// owned; what is not told had nothing to use.
func TestOnlyByWhatIsOwned(t *testing.T) {
	came, used := 0, 0
	for seed := range int64(30) {
		d := draws(seed, 4)
		x := made(t, 4, 64)
		for range 300 {
			s, to, open := d.subject(), d.to(), d.Intn(2) == 0
			before := x.p.Len(to)
			uses, e := x.send(s, to, "m", open)
			if x.p.Len(to) == before {
				if len(uses) > 0 {
					t.Fatal("it is told, and did not come:", shown(s), to, uses)
				}
				continue
			}
			came++
			used += len(uses)
			if e != api.OK || !open && uses != nil {
				t.Fatal(shown(s), to, uses, e)
			}
			for _, c := range s.Label.S {
				if c != 2*to+1 && !(slices.Contains(uses, c) && slices.Contains(s.Own, c)) {
					t.Fatal("it came, and that is not told:", shown(s), to, uses)
				}
			}
			for _, c := range uses {
				if c == 2*to+1 || !slices.Contains(s.Label.S, c) || !slices.Contains(s.Own, c) {
					t.Fatal("it tells what it did not use:", shown(s), to, uses)
				}
			}
			x.take(to)
		}
	}
	if came < 1000 || used < 300 {
		t.Error("too few came:", came, used)
	}
}

// Po3: what one mailbox holds does not hang on others: without all that is done
// at the others it is the same.
func TestMailboxesApart(t *testing.T) {
	for seed := range int64(30) {
		all := made(t, 4, 3)
		var alone []*pair
		for range 4 {
			alone = append(alone, made(t, 4, 3))
		}
		d := draws(seed, 4)
		for range 300 {
			to := d.Intn(4)
			if d.Intn(3) == 0 {
				m, ok := all.take(to)
				n, ok2 := alone[to].take(to)
				if m != n || ok != ok2 {
					t.Fatal(to, m, ok, n, ok2)
				}
				continue
			}
			s, text, open := d.subject(), d.text(), d.Intn(2) == 0
			u, e := all.send(s, to, text, open)
			v, f := alone[to].send(s, to, text, open)
			if !slices.Equal(u, v) || e != f || all.p.Len(to) != alone[to].p.Len(to) {
				t.Fatal(shown(s), to, u, e, v, f)
			}
		}
		for to, one := range alone {
			for all.p.Len(to) > 0 || one.p.Len(to) > 0 {
				m, ok := all.take(to)
				if n, ok2 := one.take(to); m != n || ok != ok2 {
					t.Fatal(to, m, ok, n, ok2)
				}
			}
			one.empty()
		}
	}
}

// R1: of mailboxes that New and Copy did not give.
func TestNotGiven(t *testing.T) {
	given := made(t, 2, 3)
	given.wantSend(from(0, nil), 1, "a", false)
	copied := *given.p
	refused, _ := port.New(0, 1)
	var copyOfNil *port.Ports
	for k, p := range []*port.Ports{nil, {}, new(port.Ports), &copied, refused, copyOfNil.Copy(), new(port.Ports).Copy()} {
		for _, who := range []int{least, -1, 0, 1, 2, 16, greatest} {
			for _, s := range []api.Subject{{}, from(0, []int{1}, 1), from(1, []int{0}, 0), from(who, nil)} {
				for _, text := range []string{"", "a", strings.Repeat("a", 1025)} {
					for _, open := range []bool{false, true} {
						if u, e := p.Send(s, who, text, open); u != nil || e != api.ErrArg {
							t.Error(k, "Send", who, u, e)
						}
					}
				}
			}
			if m, ok := p.Take(who); m != (api.Message{}) || ok {
				t.Error(k, "Take", who, m, ok)
			}
			if n := p.Len(who); n != 0 {
				t.Error(k, "Len", who, n)
			}
		}
		if c := p.Copy(); c != nil {
			t.Error(k, "Copy", c)
		}
	}
	// Those that were copied by assignment stand as they did.
	given.stands()
	given.wantLens(0, 1)
	given.wantTake(1, 0, "a")
}
