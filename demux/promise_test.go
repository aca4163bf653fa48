package demux_test

import (
	"cloister/api"
	"cloister/demux"
	"cloister/reply"
	"fmt"
	"strings"
	"testing"
)

// De1, De2: calls of all kinds at some connections, held against what is told.
func TestDrawn(t *testing.T) {
	seen := map[string]int{}
	for seed := range int64(500) {
		d := draws(seed, 1+int(seed)%16)
		if seed%3 == 0 {
			d.users = 2
		}
		x := made(t, d.users, 1+d.Intn(4), 1+d.Intn(4))
		for user := range d.users {
			x.bind(fmt.Sprint("t", user), user)
		}
		for k := range 300 {
			d.call(x)
			if k%50 == 0 {
				x.sees()
			}
		}
		for conn := range x.all() {
			if act, _ := x.pick(conn); act.Kind == demux.Emit {
				seen[strings.Fields(act.Out)[1]]++
			} else {
				seen[fmt.Sprint(act.Kind)]++
			}
		}
		x.stands()
	}
	for _, kind := range []string{"0", "2", "3", "4", "200", "400", "401", "403", "413", "500", "503"} {
		if seen[kind] == 0 {
			t.Error("never drawn:", kind, seen)
		}
	}
}

// turn is a request of a connection's bytes, and what goes out for it.
type turn struct {
	text string
	// status is what is told at once; 0, if something is handed on.
	status int
	closes bool
}

// turns are requests of a connection that is, or will be, the user 0's.
func (d *draw) turns() []turn {
	var out []turn
	owned := false
	for len(out) < 12 {
		path := fmt.Sprint("/", len(out))
		var next turn
		switch d.Intn(6) {
		case 0, 1:
			next = turn{text: post(path, strings.Repeat("b", d.Intn(50)), sid("t0"))}
			owned = true
		case 2:
			next = turn{text: request("PUT", path, "a: b", "Transfer-Encoding: chunked", sid("t0")) + "2\r\nab\r\n1\r\nc\r\n0\r\n\r\n"}
			owned = true
		case 3:
			next = turn{text: post("/login", "user=a&word=w")}
			if owned {
				next.status = 403
			}
		case 4:
			next = turn{text: get(path), status: 401}
		default:
			next = turn{text: post("/login", "user=a"), status: 400}
		}
		if d.Intn(20) == 0 {
			next = turn{text: get(path, sid("t0"), ends), closes: true}
		}
		out = append(out, next)
	}
	if d.Intn(3) == 0 {
		out = append(out, turn{text: "GET / HTTP/1.7\r\nHost: a\r\n\r\n", status: 505, closes: true}, turn{text: get("/", sid("t0"))})
	}
	return out
}

// sent are the bytes that should go out for turns.
func sent(turns []turn) string {
	var out string
	for n, one := range turns {
		if one.status > 0 {
			out += bare(one.status, one.closes)
		} else {
			out += whole(200, fmt.Sprint("answer ", n), one.closes)
		}
		if one.closes {
			break
		}
	}
	return out
}

// script is a connection with its requests, and what went out there.
type script struct {
	turns   []turn
	rest    string
	answers int
	out     string
}

// step does one thing at a connection: some bytes arrive, or it is picked, or
// what it waits for is answered.
func (s *script) step(d *draw, x *pair, conn int) {
	x.t.Helper()
	switch d.Intn(3) {
	case 0:
		n := min(d.Intn(120), len(s.rest))
		if x.d.Open(conn) || s.out == "" {
			x.arrive(conn, s.rest[:n])
			s.rest = s.rest[n:]
		}
	case 1:
		act, _ := x.pick(conn)
		if act.Kind == demux.Emit {
			s.out += act.Out
			s.answers++
		}
	default:
		if x.d.Waits(conn) {
			x.answer(conn, reply.Plain(200, fmt.Sprint("answer ", s.answers), false))
		}
	}
}

// De3: what goes out stands in the order of the requests, however these are cut
// into parts, and whenever which connection is picked or answered; nothing goes
// out behind a closing answer.
func TestInOrder(t *testing.T) {
	for seed := range int64(60) {
		d := draws(seed, 1)
		x := made(t, 1, 64, 64)
		x.bind("t0", 0)
		all := make([]*script, 1+d.Intn(8))
		for conn := range all {
			all[conn] = &script{turns: d.turns()}
			for _, one := range all[conn].turns {
				all[conn].rest += one.text
			}
		}
		for range 2500 * len(all) {
			conn := d.Intn(len(all))
			all[conn].step(d, x, conn)
		}
		for conn, s := range all {
			if want := sent(s.turns); s.out != want {
				t.Fatalf("%d: %q; want %q", conn, s.out, want)
			}
		}
		x.stands()
	}
}

// De3: whole requests, many at one time: as if they had come one by one.
func TestManyAtOneTime(t *testing.T) {
	for seed := range int64(30) {
		d := draws(seed, 1)
		turns := d.turns()
		var all string
		for _, one := range turns {
			all += one.text
		}
		var cuts []int
		for range d.Intn(5) {
			cuts = append(cuts, d.Intn(len(all)+1))
		}
		for _, size := range append(cuts, 1, 2, 7, 100, len(all)) {
			size = max(size, 1)
			x := made(t, 1, 1, 1)
			x.bind("t0", 0)
			var out string
			answers := 0
			for at := 0; at < len(all) && (at == 0 || x.d.Open(0)); at += size {
				x.arrive(0, all[at:min(at+size, len(all))])
				for act, _ := x.pick(0); act.Kind != demux.Nothing; act, _ = x.pick(0) {
					if act.Kind == demux.Emit {
						out += act.Out
						answers++
					} else {
						x.answer(0, reply.Plain(200, fmt.Sprint("answer ", answers), false))
					}
				}
			}
			if want := sent(turns); out != want {
				t.Fatalf("by %d: %q; want %q", size, out, want)
			}
		}
	}
}

// De3, De4, P2, P4: by the calls alone: a connection becomes a user's by a request
// whose token is that user's session then, and stays so; what is handed on is its
// own; 503 is told only to whom has as much as it may have.
func TestPromised(t *testing.T) {
	owners := 0
	for seed := range int64(300) {
		d := draws(seed+1000, 1+int(seed)%3)
		x := made(t, d.users, 1+d.Intn(3), 1+d.Intn(3))
		for user := range d.users {
			x.bind(fmt.Sprint("t", user), user)
		}
		var was [64]int
		for conn := range was {
			was[conn] = -1
		}
		for range 300 {
			if d.Intn(2) == 0 {
				d.call(x)
				for conn := range was {
					if now := x.d.User(conn); was[conn] >= 0 && now != was[conn] {
						t.Fatalf("%d was %d's, now %d's", conn, was[conn], now)
					}
					was[conn] = x.d.User(conn)
				}
				continue
			}
			conn := one(d, 0, 1, 2, 3)
			var counts [3][2]int
			for user := range d.users {
				counts[user][0], counts[user][1] = x.d.Counts(user)
			}
			act, _ := x.pick(conn)
			now := x.d.User(conn)
			if now != was[conn] {
				if was[conn] >= 0 || now < 0 || act.Kind == demux.Login || !x.b.has(now) {
					t.Fatalf("%d was %d's, now %d's", conn, was[conn], now)
				}
				owners++
			}
			was[conn] = now
			switch {
			case act.Kind == demux.Forward && (act.User != now || counts[now][1] >= x.b.asks):
				t.Fatal(act, now, counts)
			case act.Kind == demux.Logout && (act.User != now || x.b.whose(act.Token) != now):
				t.Fatal(act, now)
			case act.Kind == demux.Emit && strings.HasPrefix(act.Out, "HTTP/1.1 503") && !x.b.full(now, counts):
				t.Fatal(act, now, counts)
			}
			for user := range d.users {
				if conns, asks := x.d.Counts(user); conns > x.b.conns || asks > x.b.asks {
					t.Fatal(user, conns, asks)
				}
			}
		}
	}
	if owners < 200 {
		t.Error(owners)
	}
}

// has tells whether a user has a session.
func (b *told) has(user int) bool {
	for _, n := range b.bound {
		if n.user == user && b.whose(n.token) == user {
			return true
		}
	}
	return false
}

// full tells whether a user had as many requests as it may, or, of nobody,
// whether some user had as many connections.
func (b *told) full(user int, counts [3][2]int) bool {
	if user >= 0 {
		return counts[user][1] == b.asks
	}
	for _, c := range counts {
		if c[0] == b.conns {
			return true
		}
	}
	return false
}

// seen is what is seen of one user at its connections, and how they stand.
func seen(x *pair, act demux.Act, conn, user int) string {
	out := fmt.Sprint(x.d.Counts(user))
	for at := range 8 {
		if x.d.User(at) == user {
			out += fmt.Sprint(" ", at, x.d.Open(at), x.d.Waits(at))
		}
	}
	if x.d.User(conn) == user {
		out += fmt.Sprintf(" %+v", act)
	}
	return out + "\n"
}

// P1: two runs that differ in what arrives at connections of another user by
// then, in as many bytes, and in how that one is answered: the user 0 sees the
// same.
func TestNothingFlows(t *testing.T) {
	for seed := range int64(200) {
		var views [2]strings.Builder
		other := 0
		for run := range 2 {
			d, noise := draws(seed, 2), draws(seed*2+int64(run), 2)
			x := made(t, 2, 3, 2)
			for user := range 2 {
				x.bind(fmt.Sprint("t", user), user)
				for k := range 2 {
					x.arrive(2*k+user, get("/", sid(fmt.Sprint("t", user))))
					x.pick(2*k + user)
				}
			}
			for range 400 {
				conn := one(d, 0, 1, 2, 3, 4, 5)
				alien := x.b.lines[conn] != nil && conn < 4 && conn%2 == 1
				var act demux.Act
				switch n := d.Intn(10); {
				case n < 3:
					part := get("/", sid("t0"))
					if d.Intn(2) == 0 {
						part = part[:d.Intn(len(part))]
					}
					if alien {
						part = noise.alien(len(part))
						other++
					}
					x.arrive(conn, part)
				case n < 7:
					act, _ = x.pick(conn)
				case alien:
					x.answer(conn, noise.response())
				default:
					x.answer(conn, reply.Plain(200, fmt.Sprint(n), n == 9 && d.Intn(10) == 0))
				}
				views[run].WriteString(seen(x, act, conn, 0))
			}
		}
		if views[0].String() != views[1].String() {
			t.Fatalf("%d: the user 0 sees two runs", seed)
		}
		if other == 0 {
			t.Fatal("nothing differed")
		}
	}
}

// alien is so many bytes that another user sends.
func (d *draw) alien(n int) string {
	s := one(d, get("/", sid("t0")), get("/", sid("t1")), post("/logout", "", sid("t0")), post("/login", "user=a&word=w"), "x\r\n\r\n", strings.Repeat("y", 60))
	for len(s) < n {
		s += s
	}
	return s[:n]
}

// De3: a connection that is a user's stays so, closed or not.
func TestStaysUsers(t *testing.T) {
	x := made(t, 2, 64, 64)
	x.bind("t", 1)
	for conn := range 4 {
		x.arrive(conn, get("/", sid("t")))
		x.pick(conn)
	}
	x.free("t")
	x.bind("t", 0)
	x.shut(1)
	x.answer(2, reply.Plain(200, "", true))
	x.pick(2)
	x.answer(3, reply.Plain(200, "", false))
	x.pick(3)
	x.arrive(3, get("/", sid("t")))
	x.wantStatus(3, 403, false)
	for conn := range 4 {
		x.wantUser(conn, 1)
	}
	x.shut(3)
	x.wantUser(3, 1)
	x.wantCounts(0, 0, 0)
	x.wantCounts(1, 1, 2)
	x.stands()
}

// De4: a token that was bound, is bound later, or is bound behind a refusal, makes
// nothing a user's.
func TestThen(t *testing.T) {
	x := made(t, 1, 64, 64)
	x.bind("t", 0)
	x.arrive(0, get("/", sid("t")))
	x.free("t")
	x.wantStatus(0, 401, false)
	x.wantUser(0, -1)
	x.arrive(0, get("/", sid("t")))
	x.bind("t", 0)
	x.wantForward(0, 0, get("/", sid("t")))
	x.arrive(1, get("/", sid("u"))[:20])
	x.bind("u", 0)
	x.arrive(1, get("/", sid("u"))[20:])
	x.wantUser(1, -1)
	x.wantForward(1, 0, get("/", sid("u")))
	x.arrive(2, post("/login", "user=a&word=w", sid("u")))
	x.wantLogin(2, "a", "w")
	x.wantUser(2, -1)
	x.want(x.answer(2, api.Response{Status: 200, Fields: []api.Pair{{Name: "set-cookie", Value: "sid=u"}}}), api.OK)
	x.pick(2)
	x.wantUser(2, -1)
	x.stands()
}
