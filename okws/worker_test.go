package okws_test

import (
	"cloister/api"
	"fmt"
	"strings"
	"testing"
)

// wantText holds what goes out at a connection against a text by 200.
func (x *pair) wantText(conn int, text string) {
	x.t.Helper()
	out := x.conn(conn)
	if out == "" {
		x.t.Fatalf("nothing goes out at %d; want %q", conn, text)
	}
	if r := x.parsedReply(out); r.Status != 200 || r.Body != text {
		x.t.Fatalf("%d: %+v; want %q", conn, r, text)
	}
}

func (x *pair) wantNothing(conn int) {
	x.t.Helper()
	if out := x.conn(conn); out != "" {
		x.t.Fatalf("%d: %q", conn, out)
	}
}

func (x *pair) wantBusy(user int, want bool) {
	x.t.Helper()
	if got := x.w.Busy(user); got != want {
		x.t.Fatalf("Busy(%d): %v", user, got)
	}
}

// hands lets a request of a user come to its event process, at a connection.
func (x *pair) hands(conn, user int, text string) {
	x.t.Helper()
	x.arrive(conn, text)
	x.wantNothing(conn)
	x.wantBusy(user, true)
}

// echo is code that replies by the seventh byte of its request's text.
const echo = "push 0\npush 100\ntrap 2\npop\npush 200\npush 5\npush 1\ntrap 1"

// StepWorker: none that waits; requests that wait are done in the order in which
// they were handed on, one by a step, however many ticks there are.
func TestInOrder(t *testing.T) {
	x := of(t, "", echo)
	x.worker(0, 1<<20)
	x.worker(1, 1<<20)
	x.wantBusy(0, false)
	order := []int{3, 0, 5, 1, 4, 2}
	for _, conn := range order {
		x.hands(conn, 0, gets(fmt.Sprint("/", conn), sid(x.tokens[0])))
	}
	x.hands(10, 1, gets("/x", sid(x.tokens[1])))
	for k, conn := range order {
		x.wantBusy(0, true)
		x.worker(0, 1<<20)
		for n, other := range order {
			if n > k {
				x.wantNothing(other)
			}
		}
		x.wantText(conn, fmt.Sprint(conn))
		x.wantBusy(0, k < 5)
		x.wantBusy(1, true)
	}
	x.worker(1, 8)
	x.wantText(10, "x")
	x.wantBusy(1, false)
	x.stands()
}

// Requests of one connection, one behind the other: the next one is handed on as
// soon as the first one's answer has gone out.
func TestBehindOneAnother(t *testing.T) {
	x := of(t, "", echo)
	var text string
	for k := range 5 {
		text += gets(fmt.Sprint("/", k), sid(x.tokens[0]))
	}
	x.arrive(0, text)
	for k := range 5 {
		x.wantNothing(0)
		x.wantNothing(0)
		x.worker(0, 8)
		x.wantBusy(0, false)
		x.worker(0, 8)
		x.wantText(0, fmt.Sprint(k))
	}
	x.wantNothing(0)
	x.stands()
}

// Ticks that run out in the middle: a request goes on where it was, by just as
// many instructions.
func TestTicks(t *testing.T) {
	for first := 1; first <= 8; first++ {
		for second := 1; second <= 8; second++ {
			x := of(t, "", echo)
			x.hands(0, 0, gets("/y", sid(x.tokens[0])))
			x.worker(0, first)
			x.wantBusy(0, first < 8)
			if first < 8 {
				x.wantNothing(0)
				x.worker(0, second)
				x.wantBusy(0, first+second < 8)
			}
			if first+second >= 8 {
				x.wantText(0, "y")
			}
			x.stands()
		}
	}
}

// Code that halts, faults, or spends its fuel is answered by 500.
func TestFails(t *testing.T) {
	for _, text := range []string{"halt", "push 1\nhalt", "pop", "push 1", "push 1\npush 0\ndiv", "push 4096\nload", "ret", "jump 0", "push 0\njump 0", "call 0", "push 0\ntrap 2"} {
		for _, ticks := range []int{1, 3, 1 << 20} {
			c := config(t, 1, 0)
			c.Code, c.Fuel = parsed(t, text), 500
			x := all(t, c)
			x.hands(0, 0, gets("/", sid(x.tokens[0]))+gets("/", sid(x.tokens[0]), ends))
			for range 500 {
				x.worker(0, ticks)
			}
			x.wantBusy(0, false)
			x.wantStatus(0, 500, false)
			x.wantNothing(0)
			x.wantBusy(0, true)
			x.finish(0)
			x.wantStatus(0, 500, true)
			x.stands()
		}
	}
}

// Fuel is just enough, or one less; what one request spends is not the next one's.
func TestFuel(t *testing.T) {
	for _, fuel := range []int{1, 2, 7, 8, 9} {
		for _, ticks := range []int{1, 2, 8, 1 << 20} {
			c := config(t, 2, 0)
			c.Code, c.Fuel = parsed(t, echo), fuel
			x := all(t, c)
			for k := range 3 {
				x.hands(0, 0, gets(fmt.Sprint("/", k), sid(x.tokens[0])))
				for n := 0; n < min(fuel, 8); n += ticks {
					x.wantBusy(0, true)
					x.worker(0, ticks)
				}
				x.wantBusy(0, false)
				if fuel < 8 {
					x.wantStatus(0, 500, false)
				} else {
					x.wantText(0, fmt.Sprint(k))
				}
			}
			x.stands()
		}
	}
}

// The last fuel goes into a trap: it is done; then none is left.
func TestLastFuel(t *testing.T) {
	for _, one := range []struct {
		text  string
		grant string
	}{
		{"trap 10\njump 0", "[-1 0 1000]"}, {"trap 12\njump 0", "[]"}, {"trap 10\nhalt", "[-1 0 1000]"},
	} {
		c := config(t, 1, 0)
		c.Code, c.Fuel = parsed(t, one.text), 1
		for _, ticks := range []int{1, 2, 1 << 20} {
			x := all(t, c)
			x.hands(0, 0, gets("/", sid(x.tokens[0])))
			x.worker(0, ticks)
			x.wantBusy(0, ticks == 1)
			x.worker(0, 1)
			x.wantBusy(0, false)
			x.wantStatus(0, 500, false)
			if one.grant == "[]" {
				x.wantGrants()
			} else {
				x.wantGrants(strings.Trim(one.grant, "[]"))
			}
			x.stands()
		}
	}
	// A table operation is done too.
	c := config(t, 1, 1)
	c.Code, c.Image, c.Fuel = parsed(t, pushes(0, 1, 0, 1, 1)+"trap 3"), "k", 6
	x := all(t, c)
	x.hands(0, 0, gets("/", sid(x.tokens[0])))
	x.worker(0, 9)
	x.wantBusy(0, true)
	x.table(0)
	x.wantUses("0 [1] insert k k")
	x.wantNothing(0)
	x.wantBusy(0, true)
	x.worker(0, 1)
	x.wantStatus(0, 500, false)
	x.stands()
}

// While an event process waits for a table operation nothing of it is done, and
// no other request is begun.
func TestWaitsForTable(t *testing.T) {
	x := of(t, "kv", pushes(0, 1, 1, 1, 0)+"trap 3\n"+pushes(0, 1, 0)+"trap 5\n"+shows)
	x.table(0)
	x.hands(0, 0, gets("/", sid(x.tokens[0])))
	x.table(0)
	x.hands(1, 0, gets("/", sid(x.tokens[0])))
	x.worker(0, 5)
	x.table(0)
	if rows := x.w.Rows(); len(rows) != 0 {
		t.Fatal(rows)
	}
	for range 4 {
		x.worker(0, 1<<20)
		x.wantChanges()
	}
	x.table(1)
	x.wantChanges()
	x.table(0)
	x.wantChanges("0 1 k [1] [2]")
	x.table(0)
	x.table(0)
	x.wantChanges("0 1 k [1] [2]")
	x.wantNothing(0)
	x.worker(0, 1<<20)
	x.wantNothing(0)
	x.wantChanges("0 1 k [1] [2]")
	x.table(0)
	x.wantChanges("0 1 k [1] [2]", "0 3 k [1] [2]")
	x.wantNothing(0)
	x.worker(0, 1<<20)
	x.wantText(0, "\x00\x00")
	x.finish(0)
	x.wantText(1, "\x00\x00")
	x.stands()
}

// The table server asks who one is when it does the operation, not when it was
// asked for; the row is what it is then.
func TestTableThen(t *testing.T) {
	c := config(t, 2, 0b11)
	c.Rows = []api.Row{{Key: "k", Cells: []string{"v"}, Label: api.Label{I: []int{4}}, Who: -1}}
	x := all(t, c)
	text, b := whole(update("k", "w", 1), get("k"))
	x.hands(0, 0, posts("/", text, sid(x.tokens[0])))
	x.worker(0, 1<<20)
	x.wants(1, "0", gives(0, 4))
	x.table(0)
	x.wantChanges("0 2 k [] [4]")
	x.worker(0, 1<<20)
	x.wants(1, "0 0", remove("k", 1), insert("k", "other", 1))
	x.table(0)
	x.finish(0)
	if got := b.reads(x.parsedReply(x.conn(0))); got != "0 5:other" {
		t.Error(got)
	}
	x.wantChanges("0 2 k [] [4]", "1 3 k [] [4]", "1 1 k [] [4]")
	text, b = whole(update("k", "w", 1))
	x.hands(0, 0, posts("/", text, sid(x.tokens[0])))
	x.worker(0, 1<<20)
	x.wants(1, "0", remove("k", 1))
	x.finish(0)
	if got := b.reads(x.parsedReply(x.conn(0))); got != "3" {
		t.Error(got)
	}
	l := x.w.Log()
	for k, n := range l.Changes {
		if x.steps[n.Step].Kind != api.StepTable || x.steps[n.Step].At != n.Who {
			t.Error(k, n)
		}
	}
	x.stands()
}

// An event process keeps its memory from request to request; others have theirs.
func TestMemories(t *testing.T) {
	// It counts at 0, and replies by that.
	const counts = "push 0\nload\npush 1\nadd\npush 0\nstore\npush 200\npush 0\npush 1\ntrap 1"
	x := of(t, "0", counts)
	for k := range 9 {
		if r := x.serves(0, gets("/", sid(x.tokens[0]))); r.Body != fmt.Sprint(k+1) {
			t.Fatal(k, r)
		}
	}
	if r := x.serves(1, gets("/", sid(x.tokens[1]))); r.Body != "1" {
		t.Fatal(r)
	}
	// A request that fails leaves what it stored.
	x = of(t, "0", "push 0\nload\npush 1\nadd\npush 0\nstore\npush 0\nload\npush 50\neq\nif 12\nhalt\npush 200\npush 0\npush 1\ntrap 1")
	for _, want := range []int{500, 200, 500} {
		if r := x.serves(0, gets("/", sid(x.tokens[0]))); r.Status != want {
			t.Fatal(want, r)
		}
	}
	x.stands()
}

// Requests of connections that are shut meanwhile are done; nothing goes out, and
// the others go on.
func TestShutMeanwhile(t *testing.T) {
	x := all(t, config(t, 1, 1))
	for conn := range 3 {
		text, _ := whole(insert(fmt.Sprint("k", conn), "", 1), makes())
		x.hands(conn, 0, posts("/", text, sid(x.tokens[0])))
	}
	x.shut(1)
	x.worker(0, 100)
	x.shut(0)
	x.finish(0)
	x.wantNothing(0)
	x.wantNothing(1)
	if r := x.parsedReply(x.conn(2)); r.Status != 200 {
		t.Error(r)
	}
	x.wantChanges("0 1 k0 [] [2]", "0 1 k1 [] [2]", "0 1 k2 [] [2]")
	x.wantGrants("-1 0 1000", "-1 0 1001", "-1 0 1002")
	x.stands()
}

// Ok2: Busy, of who has a request that waits, goes on, waits for a table; of
// nobody.
func TestBusy(t *testing.T) {
	x := of(t, "k", pushes(0, 1)+"trap 7\nhalt")
	for _, user := range append(noNumbers(), 0, 1, 2, 16) {
		x.wantBusy(user, false)
	}
	x.arrive(0, gets("/", sid(x.tokens[1])))
	x.wantBusy(1, false)
	x.conn(0)
	x.wantBusy(1, true)
	x.wantBusy(0, false)
	x.worker(1, 1)
	x.wantBusy(1, true)
	x.worker(1, 5)
	x.wantBusy(1, true)
	x.table(1)
	x.wantBusy(1, true)
	x.worker(1, 1)
	x.wantBusy(1, false)
	x.stands()
}

// Steps of several users in turns, tick by tick: each one's answers are as if it
// were alone.
func TestInTurns(t *testing.T) {
	x := all(t, config(t, 4, 0))
	alone := x.copy()
	var bodies []*body
	var texts []string
	for user := range 4 {
		text, b := whole(insert("k", fmt.Sprint("of ", user), 0), get("k"), who(), makes(), send(user, fmt.Sprint("to ", user), 0), recv(), count(""))
		bodies, texts = append(bodies, b), append(texts, posts("/", text, sid(x.tokens[user])))
		x.hands(user, user, texts[user])
	}
	for k := 0; x.w.Busy(0) || x.w.Busy(1) || x.w.Busy(2) || x.w.Busy(3); k++ {
		user := k * 3 % 4
		x.worker(user, 1+k*k%97)
		if k%5 == 0 {
			x.table(k / 5 % 4)
		}
		if k > 10000 {
			t.Fatal("never ends")
		}
	}
	for user := range 4 {
		got, want := bodies[user].reads(x.parsedReply(x.conn(user))), bodies[user].reads(alone.serves(user, texts[user]))
		if got != want || got != fmt.Sprintf("0 4:of %d %d %d 0 4:to %d 1", user, user, 1000*user+1000, user) {
			t.Errorf("%q; want %q", got, want)
		}
	}
	x.stands()
}

// The bytes of requests in whatever parts, with picks of all units between: the
// same answers.
func TestInParts(t *testing.T) {
	text, _ := whole(insert("k", "v", 0), get("k"), makes(), who())
	var want string
	for _, size := range []int{100000, 1, 2, 3, 7, 50, 101} {
		x := all(t, config(t, 2, 0))
		bytes := gets("/x", sid(x.tokens[0])) + posts("/", text, sid(x.tokens[0])) + gets("/", "Cookie: none") + gets("/", sid(x.tokens[1])) + posts("/", text, sid(x.tokens[0])) + gets("/y", sid(x.tokens[0]), ends) + gets("/z", sid(x.tokens[0]))
		var out string
		picks := func() {
			out += x.conn(0)
			x.idd(0)
			x.worker(0, 700)
			x.table(0)
		}
		for at := 0; at < len(bytes); at += size {
			x.arrive(0, bytes[at:min(at+size, len(bytes))])
			picks()
		}
		for range 200 {
			picks()
		}
		if want == "" {
			want = out
			if n := strings.Count(out, "HTTP/1.1"); n != 6 {
				t.Fatalf("%d: %q", n, out)
			}
		}
		if out != want {
			t.Fatalf("by %d: %q; want %q", size, out, want)
		}
		x.sees()
	}
}
