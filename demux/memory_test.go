package demux_test

import (
	"cloister/api"
	"cloister/demux"
	"cloister/parse"
	"cloister/reply"
	"fmt"
	"slices"
	"strings"
	"testing"
	"unsafe"
)

// R1: connections that New and Copy did not give answer zero values (-1 of User),
// ErrArg where they answer an error, at all arguments.
func TestConnectionsOfNobody(t *testing.T) {
	x := made(t, 2, 2, 2)
	x.bind("t", 0)
	x.arrive(0, get("/", sid("t")))
	x.pick(0)
	x.arrive(1, get("/"))
	laid := *x.d
	for k, d := range []*demux.Demux{nil, {}, &laid} {
		for _, conn := range append(noConns(), 0, 1, 2, 63) {
			for _, s := range []string{"", "x", get("/", sid("t")), strings.Repeat("x", feed+1)} {
				if e := d.Arrive(conn, s); e != api.ErrArg {
					t.Error(k, conn, e)
				}
			}
			if e := d.Shut(conn); e != api.ErrArg {
				t.Error(k, conn, e)
			}
			if act, e := d.Pick(conn); e != api.ErrArg || !alike(act, demux.Act{}) {
				t.Error(k, conn, act, e)
			}
			if e := d.Answer(conn, reply.Plain(200, "", true)); e != api.ErrArg {
				t.Error(k, conn, e)
			}
			if d.User(conn) != -1 || d.Open(conn) || d.Waits(conn) {
				t.Error(k, conn)
			}
		}
		for _, user := range append(x.noUsers(), 0, 1) {
			for _, token := range []string{"", "t", "u"} {
				if e := d.Bind(token, user); e != api.ErrArg {
					t.Error(k, user, e)
				}
				if e := d.Free(token); e != api.ErrArg {
					t.Error(k, e)
				}
			}
			if conns, asks := d.Counts(user); conns != 0 || asks != 0 {
				t.Error(k, user, conns, asks)
			}
		}
		if c := d.Copy(); c != nil {
			t.Error(k, c)
		}
	}
	x.stands()
}

// spoil changes all that a list has, and the room behind it.
func spoil[T any](l []T, by T) {
	for i := range l[:cap(l)] {
		l[:cap(l)][i] = by
	}
}

// overlaps tells whether two texts share memory.
func overlaps(a, b string) bool {
	p, q := uintptr(unsafe.Pointer(unsafe.StringData(a))), uintptr(unsafe.Pointer(unsafe.StringData(b)))
	return p < q+uintptr(len(b)) && q < p+uintptr(len(a))
}

// lender lends texts whose bytes it changes afterwards.
type lender struct{ all [][]byte }

func (l *lender) lend(s string) string {
	bytes := []byte(s)
	l.all = append(l.all, bytes)
	return unsafe.String(unsafe.SliceData(bytes), len(bytes))
}

func (l *lender) spoil() {
	for _, bytes := range l.all {
		spoil(bytes, '!')
	}
}

// R3: the lists of a response that was handed in are neither changed nor kept, nor
// is the room behind their ends.
func TestResponsesNotKept(t *testing.T) {
	x := asked(t)
	for conn := range 6 {
		behind := []api.Pair{{Name: "a", Value: "b"}, {Name: "c", Value: "d"}, {Name: "Wrong one", Value: "\n"}, {}}
		was := slices.Clone(behind)
		r := api.Response{Status: 200, Fields: behind[:2], Body: "text"}
		if e := x.d.Answer(conn, r); e != api.OK || !slices.Equal(behind, was) {
			t.Fatal(e, behind)
		}
		x.b.answer(conn, api.Response{Status: 200, Fields: was[:2], Body: "text"})
		spoil(behind, api.Pair{Name: "other", Value: "other"})
	}
	c := x.copy()
	for _, one := range []*pair{x, c} {
		for conn := range 6 {
			closes, word := conn%2 == 1, "keep-alive"
			if closes {
				word = "close"
			}
			out := "HTTP/1.1 200 OK\r\na: b\r\nc: d\r\ncontent-length: 4\r\nconnection: " + word + "\r\n\r\ntext"
			one.wantAct(conn, demux.Act{Kind: demux.Emit, Out: out, Close: closes})
		}
		one.stands()
	}
}

// R3, of texts: the bytes behind those that were handed in are changed afterwards;
// the connections are what they were.
func TestTextsNotKept(t *testing.T) {
	x := made(t, 2, 64, 64)
	var l lender
	x.b.bind("token", 1)
	x.d.Bind(l.lend("token"), 1)
	text := post("/a?b=c", "body", sid("token"))
	for conn, s := range []string{text, text[:40], text + text[:9], post("/login", "user=a&word=w"), "x\r\n\r\n", strings.Repeat("x", feed)} {
		x.b.arrive(conn, s)
		x.d.Arrive(conn, l.lend(s))
	}
	x.d.Free(l.lend("none"))
	for _, conn := range []int{6, 7} {
		x.arrive(conn, text)
		x.pick(conn)
		x.b.answer(conn, api.Response{Status: 200, Fields: []api.Pair{{Name: "name", Value: "value"}}, Body: "the body"})
		x.d.Answer(conn, api.Response{Status: 200, Fields: []api.Pair{{Name: l.lend("name"), Value: l.lend("value")}}, Body: l.lend("the body")})
	}
	c := x.copy()
	l.spoil()
	for _, one := range []*pair{x, c, c.copy()} {
		one.sees()
		one.wantForward(0, 1, text)
		one.arrive(1, text[40:])
		one.wantForward(1, 1, text)
		one.wantForward(2, 1, text)
		one.wantLogin(3, "a", "w")
		one.wantStatus(4, 400, true)
		one.wantStatus(5, 431, true)
		one.pick(6)
		one.stands()
		one.want(one.free("token"), api.OK)
	}
}

// spoilRequest changes all that a request's lists have.
func spoilRequest(r api.Request) {
	spoil(r.Head.Fields, api.Pair{Name: "cookie", Value: "sid=t1"})
	spoil(r.Query, api.Pair{Name: "spoilt", Value: "spoilt"})
}

// R3: a request that was handed on is nobody else's: its lists are changed, with
// the room behind them, and change nothing.
func TestRequestsAreNew(t *testing.T) {
	text := get("/?a=b&c=d", "X: y", sid("t0"), "Z: z")
	want, _ := parse.All(text)
	x := made(t, 2, 64, 64)
	x.bind("t0", 0)
	x.bind("t1", 1)
	x.arrive(0, text+text+text)
	c := x.copy()
	for _, one := range []*pair{x, c, c.copy()} {
		for range 3 {
			act, e := one.d.Pick(0)
			one.b.pick(0)
			if e != api.OK || !alike(act, demux.Act{Kind: demux.Forward, User: 0, Request: want[0]}) {
				t.Fatal(shown(act), e)
			}
			fields := slices.Clone(act.Request.Head.Fields)
			spoil(act.Request.Query, api.Pair{})
			if !slices.Equal(act.Request.Head.Fields, fields) {
				t.Fatal("two lists of one request share memory")
			}
			spoilRequest(act.Request)
			one.answer(0, reply.Plain(200, "", false))
			one.wantText(0, 200, "", false)
		}
		one.stands()
	}
}

// texts are all texts of an act.
func texts(act demux.Act) []string {
	r := act.Request
	out := []string{act.Out, act.Token, act.Name, act.Word, r.Head.Method, r.Head.Target, r.Path, r.Body}
	for _, p := range append(slices.Clone(r.Head.Fields), r.Query...) {
		out = append(out, p.Name, p.Value)
	}
	return out
}

// R3, of texts: what two calls answer shares no memory, nor do two copies' answers.
func TestTextsAreNew(t *testing.T) {
	x := made(t, 1, 64, 64)
	x.bind("token", 0)
	text := post("/path?a=b", "body", sid("token"))
	for conn, s := range []string{text, post("/login", "user=name&word=word"), post("/logout", "", sid("token")), get("/"), "x\r\n\r\n"} {
		x.arrive(conn, s)
		x.arrive(conn+8, s+text)
	}
	x.pick(10)
	x.answer(10, reply.Plain(200, "text", false))
	var all [][]string
	for _, one := range []*pair{x.copy(), x, x.copy().copy()} {
		for conn := range 16 {
			act, _ := one.pick(conn)
			all = append(all, texts(act))
		}
	}
	n := 0
	for i, some := range all {
		for _, others := range all[:i] {
			for _, a := range some {
				for _, b := range others {
					// Go itself keeps the texts of one byte, for all.
					if len(a) > 1 && len(b) > 1 && overlaps(a, b) {
						t.Fatalf("%q and %q share memory", a, b)
					}
					n++
				}
			}
		}
	}
	if n < 1000 {
		t.Error(n)
	}
	x.stands()
}

// R3: nil and the empty list are the same.
func TestNilAndEmpty(t *testing.T) {
	x := asked(t)
	for conn, fields := range [][]api.Pair{nil, {}, make([]api.Pair, 3)[:0]} {
		x.answer(2*conn, api.Response{Status: 200, Fields: fields, Body: "a"})
		x.wantText(2*conn, 200, "a", false)
	}
	x.stands()
}

// R2: a call that is refused has changed nothing.
func TestRefused(t *testing.T) {
	x := asked(t)
	x.arrive(8, get("/", sid("t"))[:30])
	x.arrive(9, get("/", sid("t"))+get("/"))
	x.arrive(10, "")
	x.shut(10)
	x.arrive(11, get("/", sid("t")))
	x.pick(11)
	x.answer(11, reply.Plain(200, "there", false))
	x.shut(5)
	for range 3 {
		for _, conn := range append(noConns(), 8, 9, 10, 11, 12) {
			if x.answer(conn, reply.Plain(404, "", true)) == api.OK {
				t.Error(conn)
			}
		}
		for _, conn := range append(noConns(), 5, 10, 12) {
			if x.shut(conn) == api.OK {
				t.Error(conn)
			}
		}
		for _, conn := range append(noConns(), 5, 10) {
			if x.arrive(conn, "x") == api.OK {
				t.Error(conn)
			}
		}
		for conn := range x.all() {
			x.want(x.arrive(conn, strings.Repeat("x", feed+1)), api.ErrArg)
		}
		x.want(x.free("u"), api.ErrNone)
		x.want(x.free(""), api.ErrNone)
		x.want(x.bind("", 0), api.ErrArg)
		x.want(x.bind("t", 1), api.ErrArg)
		x.want(x.bind("t", -1), api.ErrArg)
		x.stands()
	}
	x.wantText(11, 200, "there", false)
	x.arrive(8, get("/", sid("t"))[30:])
	x.wantForward(8, 0, get("/", sid("t")))
	x.wantForward(9, 0, get("/", sid("t")))
	x.stands()
}

// R4: a copy stands as the connections do: with their bytes, whose they are, what
// waits, the answers, the sessions; each goes its own way.
func TestCopy(t *testing.T) {
	x := made(t, 2, 2, 2)
	x.bind("t", 0)
	x.bind("u", 1)
	text := get("/", sid("t"))
	x.arrive(0, text+text)
	x.pick(0)
	x.arrive(1, text[:20])
	x.arrive(2, get("/", sid("u"), ends))
	x.pick(2)
	x.answer(2, reply.Plain(200, "answer", false))
	x.arrive(3, strings.Repeat("x", feed))
	x.arrive(3, "x")
	x.arrive(4, "")
	x.shut(4)
	x.arrive(5, post("/login", "user=a&word=w", ends))
	x.pick(5)
	c := x.copy()
	c.stands()
	// Each of these is seen by one of both alone.
	x.free("t")
	x.bind("v", 1)
	c.bind("t", 1)
	x.arrive(1, text[20:])
	x.wantStatus(1, 401, false)
	c.wantNothing(1)
	c.arrive(1, text[20:])
	c.wantForward(1, 1, text)
	x.answer(0, reply.Plain(200, "x", true))
	c.wantWaits(0, true)
	c.wantCounts(0, 1, 1)
	x.wantText(0, 200, "x", true)
	c.answer(0, reply.Plain(404, "c", false))
	c.wantText(0, 404, "c", false)
	c.wantStatus(0, 403, false)
	x.wantText(2, 200, "answer", true)
	if !c.d.Open(2) {
		t.Error("closed by the other one's pick")
	}
	c.shut(2)
	x.wantStatus(3, 413, true)
	d := c.copy()
	c.shut(3)
	d.wantStatus(3, 413, true)
	for _, one := range []*pair{x, c, d} {
		one.wantNothing(4)
		one.answer(5, reply.Plain(401, "", false))
		one.wantStatus(5, 401, true)
		one.arrive(6, get("/", sid("v")))
	}
	x.wantForward(6, 1, get("/", sid("v")))
	c.wantStatus(6, 401, false)
	for _, one := range []*pair{x, c, d} {
		one.stands()
	}
}

// R4: copies and copies of these, each changed behind the others' backs.
func TestCopiesDrawn(t *testing.T) {
	for seed := range int64(30) {
		d := draws(seed, 3)
		first := made(t, 3, 1+d.Intn(4), 1+d.Intn(4))
		for user := range 3 {
			first.bind(fmt.Sprint("t", user), user)
		}
		all := []*pair{first}
		for range 5 {
			for range 100 {
				d.call(all[d.Intn(len(all))])
			}
			all = append(all, all[d.Intn(len(all))].copy())
			for _, one := range all {
				one.sees()
			}
		}
		for _, one := range all {
			one.stands()
		}
	}
}

// R4: connections know nothing of other ones, at one time too.
func TestApart(t *testing.T) {
	first := made(t, 3, 3, 3)
	d := draws(1, 3)
	for range 100 {
		d.call(first)
	}
	for k := range int64(8) {
		c := first.copy()
		t.Run(fmt.Sprint(k), func(t *testing.T) {
			t.Parallel()
			c.t = t
			d, x := draws(k/2, 3), made(t, 3, 2, 2)
			for range 300 {
				d.call(x)
				d.call(c)
			}
			x.stands()
			c.stands()
		})
	}
	first.stands()
}

// R4: the same calls answer the same.
func TestSameAgain(t *testing.T) {
	for seed := range int64(20) {
		var acts [2][]demux.Act
		for run := range acts {
			d := draws(seed, 4)
			x := made(t, 4, 2, 2)
			for range 200 {
				d.call(x)
				act, _ := x.pick(d.conn())
				acts[run] = append(acts[run], act)
			}
		}
		if !slices.EqualFunc(acts[0], acts[1], alike) {
			t.Fatal(seed)
		}
	}
}
