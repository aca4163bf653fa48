package demux_test

import (
	"cloister/api"
	"cloister/demux"
	"cloister/reply"
	"fmt"
	"slices"
	"strings"
	"testing"
)

// The chapter's example.
func TestExample(t *testing.T) {
	x := made(t, 2, 64, 64)
	x.want(x.bind("t", 1), api.OK)
	x.arrive(0, get("/"))
	x.wantStatus(0, 401, false)
	text := get("/", "Cookie: sid=t")
	x.arrive(0, text)
	x.wantForward(0, 1, text)
	x.wantCounts(1, 1, 1)
	x.wantNothing(0)
	x.want(x.answer(0, reply.Plain(200, "hi", false)), api.OK)
	x.wantText(0, 200, "hi", false)
	x.stands()
}

func TestLimits(t *testing.T) {
	if api.MaxUsers != 16 || api.MaxConns != 64 || api.MaxFeed != feed || api.ErrArg != 1 || api.ErrNone != 3 || api.ErrEnded != 80 {
		t.Error(api.MaxUsers, api.MaxConns, api.MaxFeed, api.ErrArg, api.ErrNone, api.ErrEnded)
	}
	for k, kind := range []int{demux.Nothing, demux.Emit, demux.Login, demux.Logout, demux.Forward} {
		if k != kind {
			t.Error(k, kind)
		}
	}
}

// De1: how many users, connections and requests there may be.
func TestNew(t *testing.T) {
	for _, users := range []int{least, -1, 0, 1, 2, 15, 16, 17, 64, 1<<32 + 1, greatest} {
		for _, conns := range []int{least, -1, 0, 1, 2, 16, 17, 63, 64, 65, 1<<32 + 1, greatest} {
			for _, asks := range []int{least, -1, 0, 1, 2, 16, 17, 63, 64, 65, 1<<32 + 1, greatest} {
				may := users >= 1 && users <= 16 && conns >= 1 && conns <= 64 && asks >= 1 && asks <= 64
				d, e := demux.New(users, conns, asks)
				if !may {
					if d != nil || e != api.ErrArg {
						t.Fatalf("New(%d, %d, %d): %v", users, conns, asks, e)
					}
					continue
				}
				if d == nil || e != api.OK {
					t.Fatalf("New(%d, %d, %d): %v", users, conns, asks, e)
				}
				x := &pair{t: t, d: d, b: tell(users, conns, asks)}
				x.sees()
			}
		}
	}
}

// De1: all connections are new at first: nobody's, not open, and wait for nothing.
func TestAtFirst(t *testing.T) {
	x := made(t, 3, 2, 1)
	for conn := range x.all() {
		if x.d.Open(conn) || x.d.Waits(conn) || x.d.User(conn) != -1 {
			t.Error(conn)
		}
		x.want(x.shut(conn), api.ErrNone)
		x.want(x.answer(conn, reply.Plain(200, "", false)), api.ErrNone)
		x.wantNothing(conn)
	}
	for user := range 3 {
		x.wantCounts(user, 0, 0)
	}
	x.stands()
}

// De1, De2: numbers of no connection.
func TestNoConns(t *testing.T) {
	x := made(t, 1, 1, 1)
	x.bind("t", 0)
	for _, conn := range noConns() {
		for _, s := range []string{"", "x", get("/", sid("t")), strings.Repeat("x", feed+1)} {
			x.want(x.arrive(conn, s), api.ErrArg)
		}
		x.want(x.shut(conn), api.ErrArg)
		x.want(x.answer(conn, reply.Plain(200, "", false)), api.ErrArg)
		if act, e := x.pick(conn); e != api.ErrArg || !alike(act, demux.Act{}) {
			t.Error(conn, act, e)
		}
		if x.d.Open(conn) || x.d.Waits(conn) || x.d.User(conn) != -1 {
			t.Error(conn)
		}
	}
	x.stands()
	for _, conn := range []int{0, 63} {
		x.want(x.arrive(conn, get("/")), api.OK)
		x.wantStatus(conn, 401, false)
		x.want(x.shut(conn), api.OK)
	}
	x.stands()
}

// De1: texts of each length, at a connection that is new, open and closed.
func TestArrive(t *testing.T) {
	for _, n := range []int{0, 1, 2, 4096, feed - 1, feed, feed + 1, feed + 2, 1 << 17, 1 << 21} {
		s := strings.Repeat("x", n)
		want := api.OK
		if n > feed {
			want = api.ErrArg
		}
		x := made(t, 1, 1, 1)
		x.want(x.arrive(5, s), want)
		if x.d.Open(5) != (n <= feed) || x.d.Open(4) || x.d.Open(6) {
			t.Error(n)
		}
		x.sees()
		x.arrive(6, "y")
		x.want(x.arrive(6, s), want)
		x.shut(6)
		if n <= feed {
			want = api.ErrEnded
		}
		x.want(x.arrive(6, s), want)
		if x.d.Open(6) {
			t.Error(n)
		}
		x.stands()
	}
}

// De1: a connection opens by no bytes at all too, and then does nothing.
func TestNothingArrives(t *testing.T) {
	x := made(t, 1, 1, 1)
	x.want(x.arrive(3, ""), api.OK)
	if !x.d.Open(3) {
		t.Error("not open")
	}
	x.wantNothing(3)
	x.arrive(3, get("/")[:9])
	x.wantNothing(3)
	x.arrive(3, "")
	x.wantNothing(3)
	x.arrive(3, get("/")[9:])
	x.wantStatus(3, 401, false)
	x.stands()
}

// De1: a closed connection stays closed, however it was closed.
func TestClosed(t *testing.T) {
	closings := []func(x *pair){
		func(x *pair) { x.shut(0) },
		func(x *pair) { x.arrive(0, get("/", ends)); x.wantStatus(0, 401, true) },
		func(x *pair) { x.arrive(0, "x\r\n\r\n"); x.wantStatus(0, 400, true) },
		func(x *pair) { x.arrive(0, strings.Repeat("x", feed)); x.arrive(0, "x"); x.wantStatus(0, 413, true) },
		func(x *pair) {
			x.arrive(0, get("/", sid("t"))+get("/", sid("t")))
			x.pick(0)
			x.answer(0, reply.Plain(200, "", true))
			x.wantText(0, 200, "", true)
		},
	}
	for k, closes := range closings {
		x := made(t, 1, 1, 1)
		x.bind("t", 0)
		x.arrive(0, "")
		closes(x)
		for range 3 {
			if x.d.Open(0) {
				t.Error(k)
			}
			x.want(x.arrive(0, get("/", sid("t"))), api.ErrEnded)
			x.want(x.arrive(0, ""), api.ErrEnded)
			x.want(x.arrive(0, strings.Repeat("x", feed+1)), api.ErrArg)
			x.want(x.shut(0), api.ErrNone)
			x.want(x.answer(0, reply.Plain(200, "", false)), api.ErrNone)
			x.wantNothing(0)
			x.wantCounts(0, 0, 0)
		}
		x.stands()
	}
}

// De1: bytes that find no room are told by Pick alone; they do not come, nor do
// those ahead of them; more behind them changes nothing.
func TestNoRoom(t *testing.T) {
	for _, n := range []int{1, 2, 4096, feed} {
		for _, behind := range []string{"", "x", get("/"), strings.Repeat("x", feed)} {
			x := made(t, 1, 1, 1)
			x.bind("t", 0)
			ahead := (get("/", sid("t")) + strings.Repeat("x", feed))[:feed-n+1]
			x.want(x.arrive(0, ahead), api.OK)
			x.want(x.arrive(0, strings.Repeat("x", n)), api.OK)
			x.want(x.arrive(0, behind), api.OK)
			if !x.d.Open(0) {
				t.Error(n, shown(behind))
			}
			x.stands()
			x.wantStatus(0, 413, true)
			x.wantUser(0, -1)
			x.stands()
		}
	}
}

// De1: bytes find room up to the last byte.
func TestRoom(t *testing.T) {
	x := made(t, 1, 1, 1)
	x.bind("t", 0)
	one := post("/", strings.Repeat("b", 10000), sid("t"))
	x.arrive(0, strings.Repeat(one, 6))
	x.arrive(0, strings.Repeat("x", feed-6*len(one)))
	x.arrive(0, "")
	for range 6 {
		x.wantForward(0, 0, one)
		// What was handed on waits no more: there is room for as much.
		x.arrive(0, strings.Repeat("x", len(one)))
		x.answer(0, reply.Plain(200, "", false))
		x.wantText(0, 200, "", false)
	}
	x.stands()
	c := x.copy()
	c.wantStatus(0, 431, true)
	x.arrive(0, "x")
	x.wantStatus(0, 413, true)
	x.stands()
}

// De1: what is shut: one that is new, open, closed, one that waits, one that has
// an answer, one that is broken.
func TestShut(t *testing.T) {
	x := made(t, 2, 2, 2)
	x.bind("t", 1)
	x.want(x.shut(0), api.ErrNone)
	x.want(x.arrive(0, get("/", sid("t"))), api.OK)
	x.want(x.shut(0), api.OK)
	x.want(x.shut(0), api.ErrNone)
	x.wantNothing(0)
	x.wantUser(0, -1)
	x.arrive(1, get("/", sid("t"))+get("/", sid("t")))
	x.pick(1)
	x.wantCounts(1, 1, 1)
	x.want(x.shut(1), api.OK)
	x.wantUser(1, 1)
	x.wantWaits(1, true)
	x.wantCounts(1, 0, 1)
	x.want(x.shut(1), api.ErrNone)
	x.stands()
	x.want(x.answer(1, reply.Plain(200, "late", false)), api.OK)
	x.wantWaits(1, false)
	x.wantCounts(1, 0, 0)
	x.wantNothing(1)
	x.want(x.answer(1, reply.Plain(200, "late", false)), api.ErrNone)
	x.arrive(2, get("/", sid("t"))+get("/", sid("t")))
	x.pick(2)
	x.answer(2, reply.Plain(200, "there", false))
	x.want(x.shut(2), api.OK)
	x.wantNothing(2)
	x.wantNothing(2)
	x.wantCounts(1, 0, 0)
	x.arrive(3, "x\r\n\r\n")
	x.want(x.shut(3), api.OK)
	x.wantNothing(3)
	x.arrive(4, strings.Repeat("x", feed))
	x.arrive(4, "x")
	x.want(x.shut(4), api.OK)
	x.wantNothing(4)
	x.stands()
}

// De1: users of each number, of connections of each size, and the empty token.
func TestBind(t *testing.T) {
	for _, users := range []int{1, 2, 15, 16} {
		x := made(t, users, 64, 64)
		for _, user := range x.noUsers() {
			x.want(x.bind("t", user), api.ErrArg)
			x.want(x.bind("", user), api.ErrArg)
			x.want(x.free("t"), api.ErrNone)
		}
		for user := range users {
			x.want(x.bind("", user), api.ErrArg)
			x.want(x.free(""), api.ErrNone)
			token := fmt.Sprint("t", user)
			x.want(x.bind(token, user), api.OK)
			x.arrive(user, get("/", sid(token)))
			x.wantForward(user, user, get("/", sid(token)))
		}
		x.arrive(40, get("/", sid(""))+get("/", sid("t")))
		x.wantStatus(40, 401, false)
		x.wantStatus(40, 401, false)
		x.stands()
	}
}

// De1: a token is bound anew, freed, and bound behind that; what is no user's is
// refused and changes nothing.
func TestBindAnew(t *testing.T) {
	x := made(t, 3, 1, 1)
	x.want(x.free("t"), api.ErrNone)
	conn := 0
	is := func(user int) {
		t.Helper()
		text := get("/", sid("t"))
		x.arrive(conn, text)
		if user < 0 {
			x.wantStatus(conn, 401, false)
		} else {
			x.wantForward(conn, user, text)
			x.answer(conn, reply.Plain(200, "", true))
			x.wantText(conn, 200, "", true)
		}
		conn++
	}
	is(-1)
	x.want(x.bind("t", 0), api.OK)
	is(0)
	x.want(x.bind("t", 0), api.OK)
	is(0)
	x.want(x.bind("t", 2), api.OK)
	is(2)
	x.want(x.bind("t", 3), api.ErrArg)
	is(2)
	x.want(x.bind("u", 1), api.OK)
	is(2)
	x.want(x.free("u"), api.OK)
	is(2)
	// Bound thrice, it is freed at one time.
	x.want(x.free("t"), api.OK)
	is(-1)
	x.want(x.free("t"), api.ErrNone)
	is(-1)
	x.want(x.bind("t", 1), api.OK)
	is(1)
	x.want(x.free("t"), api.OK)
	is(-1)
	x.stands()
}

// De1: tokens are texts of whatever bytes; no two of them are taken for one.
func TestTokens(t *testing.T) {
	tokens := []string{
		"t", "T", "tt", "0", "00", "~", "t=", "=", "=t", "t t", "t\tt", "%41", "A", "\"t\"", strings.Repeat("t", 900),
		" t", "t ", "t;", ";", "\n", "\x00", "ä", "\xff", strings.Repeat("t", 1<<20),
	}
	x := made(t, 2, 64, 64)
	for k, token := range tokens {
		x.want(x.bind(token, k%2), api.OK)
	}
	for k, token := range tokens {
		text := get("/", sid(token))
		x.arrive(k, text[:min(len(text), feed)])
		if k < 15 {
			x.wantForward(k, k%2, text)
		} else {
			x.pick(k)
		}
	}
	for k, token := range tokens {
		x.want(x.free(token), api.OK)
		x.want(x.free(token), api.ErrNone)
		if k+1 < len(tokens) {
			x.want(x.free(tokens[k+1]), api.OK)
			x.want(x.bind(tokens[k+1], 0), api.OK)
		}
	}
	x.stands()
}

// De2: how many open connections are a user's, and how many requests of it are
// not answered, of logins, logouts and requests.
func TestCounts(t *testing.T) {
	x := made(t, 3, 64, 64)
	for user := range 3 {
		x.bind(fmt.Sprint("t", user), user)
	}
	for conn := range 30 {
		text := get("/", sid(fmt.Sprint("t", conn%3)))
		x.arrive(conn, text+text)
		x.wantForward(conn, conn%3, text)
		x.wantCounts(conn%3, conn/3+1, conn/3+1)
	}
	x.arrive(30, post("/login", "user=a&word=w"))
	x.wantLogin(30, "a", "w")
	x.arrive(31, post("/logout", "", sid("t0")))
	x.wantLogout(31, "t0", 0)
	x.wantCounts(0, 11, 10)
	x.answer(30, reply.Plain(200, "", false))
	x.answer(31, reply.Plain(200, "", false))
	x.wantCounts(0, 11, 10)
	for _, user := range x.noUsers() {
		x.wantCounts(user, 0, 0)
	}
	x.answer(0, reply.Plain(200, "", false)) // answered, as yet not gone out
	x.wantCounts(0, 11, 9)
	x.pick(0)
	x.wantCounts(0, 11, 9)
	x.wantForward(0, 0, get("/", sid("t0")))
	x.wantCounts(0, 11, 10)
	x.answer(3, reply.Plain(200, "", true))
	x.wantCounts(0, 11, 9)
	x.pick(3)
	x.wantCounts(0, 10, 9)
	x.shut(6)
	x.wantCounts(0, 9, 9)
	x.wantCounts(1, 10, 10)
	x.wantCounts(2, 10, 10)
	x.stands()
}

// De2: that a token is somebody else's now changes nothing of what was handed on.
func TestFreedWhileRequestsWait(t *testing.T) {
	x := made(t, 2, 1, 1)
	x.bind("t", 0)
	text := get("/", sid("t"))
	x.arrive(0, text+text+text+post("/logout", "", sid("t")))
	x.wantForward(0, 0, text)
	x.want(x.free("t"), api.OK)
	x.wantCounts(0, 1, 1)
	x.wantNothing(0)
	x.want(x.answer(0, reply.Plain(200, "a", false)), api.OK)
	x.wantText(0, 200, "a", false)
	x.wantStatus(0, 401, false)
	x.bind("t", 1)
	x.wantStatus(0, 403, false)
	x.wantUser(0, 0)
	x.bind("t", 0)
	x.wantLogout(0, "t", 0)
	x.bind("t", 1)
	x.free("t")
	x.wantWaits(0, true)
	x.want(x.answer(0, reply.Plain(200, "bye", false)), api.OK)
	x.wantText(0, 200, "bye", false)
	x.wantUser(0, 0)
	x.stands()
}

// Connections of several users in turns, each of which has one request waiting
// at each connection.
func TestInTurns(t *testing.T) {
	x := made(t, 16, 4, 4)
	for user := range 16 {
		x.bind(fmt.Sprint("t", user), user)
	}
	user := func(conn int) int { return conn * 5 % 16 }
	text := func(conn, k int) string { return get(fmt.Sprintf("/%d/%d", conn, k), sid(fmt.Sprint("t", user(conn)))) }
	for k := range 3 {
		for conn := range x.all() {
			x.arrive(conn, text(conn, k)+text(conn, k+1)[:conn%20])
		}
		for conn := range x.all() {
			x.wantForward(conn, user(conn), text(conn, k))
		}
		for user := range 16 {
			x.wantCounts(user, 4, 4)
		}
		var order []int
		for conn := range x.all() {
			order = append(order, conn*37%64)
		}
		for _, conn := range order {
			x.answer(conn, reply.Plain(200, fmt.Sprint(conn, k), false))
		}
		slices.Reverse(order)
		for _, conn := range order {
			x.wantText(conn, 200, fmt.Sprint(conn, k), false)
			x.arrive(conn, text(conn, k+1)[conn%20:])
			x.wantForward(conn, user(conn), text(conn, k+1))
			x.answer(conn, reply.Plain(404, "", false))
			x.wantStatus(conn, 404, false)
		}
		x.sees()
	}
	x.stands()
}
