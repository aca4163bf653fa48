package demux_test

import (
	"cloister/api"
	"cloister/demux"
	"cloister/reply"
	"fmt"
	"strings"
	"testing"
)

// asked is connections with a request of each kind that waits at one of them:
// Forward at 0 and 1, Login at 2 and 3, Logout at 4 and 5; of two the second one
// closes.
func asked(t *testing.T) *pair {
	x := made(t, 1, 64, 64)
	x.bind("t", 0)
	for conn := range 6 {
		fields := []string{sid("t")}
		if conn%2 == 1 {
			fields = append(fields, ends)
		}
		path := []string{"/", "/login", "/logout"}[conn/2]
		x.arrive(conn, post(path, "user=a&word=w", fields...))
		x.pick(conn)
		x.wantWaits(conn, true)
	}
	return x
}

// De2: an answer goes out by its bytes, and closes, if it does, or its request did.
func TestAnswers(t *testing.T) {
	for _, r := range []api.Response{
		reply.Plain(200, "", false),
		reply.Plain(200, "hi", true),
		reply.Plain(599, strings.Repeat("x", 1<<20), false),
		{Status: 299, Fields: []api.Pair{{Name: "set-cookie", Value: "sid=t"}, {Name: "a", Value: ""}, {Name: "a", Value: "b c"}}, Body: "a\r\n\r\nb"},
		{Status: 500, Fields: make([]api.Pair, 0, 5), Body: "\x00\xff", Close: true},
	} {
		x := asked(t)
		for conn := range 6 {
			x.want(x.answer(conn, r), api.OK)
			x.wantWaits(conn, false)
			x.want(x.answer(conn, reply.Plain(404, "", true)), api.ErrNone)
			sent := r
			sent.Close = r.Close || conn%2 == 1
			out, e := reply.Print(sent)
			if e != api.OK {
				t.Fatal(e)
			}
			x.wantAct(conn, demux.Act{Kind: demux.Emit, Out: out, Close: sent.Close})
			if x.d.Open(conn) == sent.Close {
				t.Error(conn, shown(r))
			}
			x.wantNothing(conn)
			x.want(x.answer(conn, r), api.ErrNone)
		}
		x.stands()
	}
}

// De2: of a response that may not be that of 500 goes out, that closes as it would.
func TestAnswersThatMayNotBe(t *testing.T) {
	with := func(name, value string) api.Response {
		return api.Response{Status: 200, Fields: []api.Pair{{Name: "a", Value: "b"}, {Name: name, Value: value}}, Body: "text"}
	}
	for _, r := range []api.Response{
		{}, reply.Plain(199, "text", false), reply.Plain(600, "text", false), reply.Plain(-200, "", false), reply.Plain(greatest, "", false),
		reply.Plain(200, strings.Repeat("x", 1<<20+1), false), {Status: 200, Fields: make([]api.Pair, 33)}, {Status: 200, Fields: make([]api.Pair, 1)},
		with("content-length", "4"), with("connection", "close"), with("A", "b"), with("a b", "c"), with("", "c"), with("a", " b"), with("a", "b\t"), with("a", "b\r\nc: d"), with("a", "\xff"),
	} {
		for _, closes := range []bool{false, true} {
			r.Close = closes
			x := asked(t)
			for conn := range 6 {
				x.want(x.answer(conn, r), api.OK)
				x.wantStatus(conn, 500, closes || conn%2 == 1)
				x.wantNothing(conn)
			}
			x.stands()
		}
	}
}

// De2: what does not wait: new, open, closed, answered, gone out.
func TestAnswerNone(t *testing.T) {
	x := made(t, 1, 1, 1)
	x.bind("t", 0)
	none := func(conn int) {
		t.Helper()
		for _, r := range []api.Response{reply.Plain(200, "", false), reply.Plain(200, "", true), {}} {
			x.want(x.answer(conn, r), api.ErrNone)
		}
		x.wantWaits(conn, false)
	}
	none(0)
	x.arrive(0, get("/")+get("/", sid("t")))
	none(0)
	x.wantStatus(0, 401, false)
	none(0)
	x.wantForward(0, 0, get("/", sid("t")))
	none(1)
	x.want(x.answer(0, reply.Plain(200, "one", false)), api.OK)
	none(0)
	x.wantText(0, 200, "one", false)
	none(0)
	x.arrive(1, get("/", ends))
	x.wantStatus(1, 401, true)
	none(1)
	x.arrive(2, "")
	x.shut(2)
	none(2)
	x.stands()
}

// De2: what was shut meanwhile waits till it is answered, and lets nothing out.
func TestAnswerOfShut(t *testing.T) {
	for _, closes := range []bool{false, true} {
		x := asked(t)
		x.wantCounts(0, 4, 2)
		for conn := range 6 {
			x.arrive(conn, get("/", sid("t")))
			x.shut(conn)
			x.wantWaits(conn, true)
			x.wantNothing(conn)
		}
		x.wantCounts(0, 0, 2)
		x.stands()
		for conn := range 6 {
			x.want(x.answer(conn, reply.Plain(200, "late", closes)), api.OK)
			x.wantWaits(conn, false)
			x.wantNothing(conn)
			x.want(x.answer(conn, reply.Plain(200, "late", closes)), api.ErrNone)
			x.wantCounts(0, 0, max(1-conn, 0))
		}
		x.wantUser(0, 0)
		x.wantUser(2, -1)
		x.wantUser(4, 0)
		x.stands()
	}
}

// An answer lets the next request of its connection go on, of the same kind or
// another one, with its own end: that of the one ahead counts no more.
func TestNextRequest(t *testing.T) {
	for kinds := range 27 {
		x := made(t, 1, 1, 1)
		x.bind("t", 0)
		texts := []string{get("/", sid("t")), post("/logout", "", sid("t")), get("/", sid("none"))}
		var all string
		for _, k := range []int{kinds % 3, kinds / 3 % 3, kinds / 9} {
			all += texts[k]
		}
		x.arrive(0, all+get("/", sid("t"), ends)+texts[0])
		for n, k := range []int{kinds % 3, kinds / 3 % 3, kinds / 9} {
			switch k {
			case 0:
				x.wantForward(0, 0, texts[0])
			case 1:
				x.wantLogout(0, "t", 0)
			default:
				x.wantStatus(0, 401, false)
				continue
			}
			x.answer(0, reply.Plain(200, fmt.Sprint(n), false))
			x.wantText(0, 200, fmt.Sprint(n), false)
		}
		x.wantForward(0, 0, get("/", sid("t"), ends))
		x.answer(0, reply.Plain(200, "last", false))
		x.wantText(0, 200, "last", true)
		x.wantNothing(0)
		x.stands()
	}
}

// A closing answer of one request does not close by the next one's, nor the other
// way round; at connections side by side.
func TestEndsApart(t *testing.T) {
	x := made(t, 1, 64, 64)
	x.bind("t", 0)
	for conn := range x.all() {
		fields := []string{sid("t")}
		if conn%2 == 1 {
			fields = append(fields, ends)
		}
		x.arrive(conn, get("/", fields...)+get("/", sid("t")))
		x.wantForward(conn, 0, get("/", fields...))
	}
	for conn := range x.all() {
		x.answer(conn, reply.Plain(200, "", conn%3 == 0))
	}
	for conn := range x.all() {
		x.wantText(conn, 200, "", conn%2 == 1 || conn%3 == 0)
	}
	for conn := range x.all() {
		if conn%2 == 0 && conn%3 != 0 {
			x.wantForward(conn, 0, get("/", sid("t")))
		} else {
			x.wantNothing(conn)
		}
	}
	x.stands()
}
