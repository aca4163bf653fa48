package demux_test

import (
	"cloister/api"
	"cloister/demux"
	"cloister/parse"
	"cloister/reply"
	"cloister/uri"
	"fmt"
	"math"
	"math/rand"
	"slices"
	"strings"
	"testing"
)

const (
	least    = math.MinInt
	greatest = math.MaxInt
	feed     = 65536
)

// told is connections as the document tells of them, another way than the
// program does: all that was bound and freed stands in one list, all that was
// forwarded in another one, and there is nothing of a connection that is new.
type told struct {
	users, conns, asks int
	bound              []binding
	forwarded          []forward
	lines              map[int]*line
}

// binding is that a token was bound to a user; to nobody (-1), if it was freed.
type binding struct {
	token string
	user  int
}

type forward struct {
	conn, user int
	answered   bool
}

type line struct {
	bytes              *parse.Parser
	user               int
	over, lost         bool
	waits, requestEnds bool
	answers            []api.Response
}

func tell(users, conns, asks int) *told {
	return &told{users: users, conns: conns, asks: asks, lines: map[int]*line{}}
}

func (b *told) copy() *told {
	c := &told{b.users, b.conns, b.asks, slices.Clone(b.bound), slices.Clone(b.forwarded), map[int]*line{}}
	for at, l := range b.lines {
		other := *l
		other.bytes = l.bytes.Copy()
		other.answers = slices.Clone(l.answers)
		c.lines[at] = &other
	}
	return c
}

func isConn(conn int) bool { return conn >= 0 && conn <= 63 }

// whose is whose session a token is; -1: nobody's.
func (b *told) whose(token string) int {
	for _, n := range slices.Backward(b.bound) {
		if n.token == token {
			return n.user
		}
	}
	return -1
}

func (b *told) user(conn int) int {
	if l := b.lines[conn]; l != nil {
		return l.user
	}
	return -1
}

func (b *told) open(conn int) bool { return b.lines[conn] != nil && !b.lines[conn].over }

func (b *told) waits(conn int) bool { return b.lines[conn] != nil && b.lines[conn].waits }

func (b *told) counts(user int) (conns, asks int) {
	if user < 0 || user >= b.users {
		return 0, 0
	}
	for at, l := range b.lines {
		if l.user == user && b.open(at) {
			conns++
		}
	}
	for _, f := range b.forwarded {
		if f.user == user && !f.answered {
			asks++
		}
	}
	return conns, asks
}

func (b *told) arrive(conn int, s string) api.Errno {
	if !isConn(conn) || len(s) > feed {
		return api.ErrArg
	}
	l := b.lines[conn]
	if l == nil {
		l = &line{bytes: parse.New(), user: -1}
		b.lines[conn] = l
	}
	if l.over {
		return api.ErrEnded
	}
	if l.bytes.Left()+len(s) > feed {
		l.lost = true
	} else {
		l.bytes.Feed(s)
	}
	return api.OK
}

func (b *told) shut(conn int) api.Errno {
	if !isConn(conn) {
		return api.ErrArg
	}
	if !b.open(conn) {
		return api.ErrNone
	}
	b.lines[conn].over = true
	return api.OK
}

func (b *told) bind(token string, user int) api.Errno {
	if user < 0 || user >= b.users || len(token) == 0 {
		return api.ErrArg
	}
	b.bound = append(b.bound, binding{token, user})
	return api.OK
}

func (b *told) free(token string) api.Errno {
	if b.whose(token) < 0 {
		return api.ErrNone
	}
	b.bound = append(b.bound, binding{token, -1})
	return api.OK
}

func (b *told) answer(conn int, r api.Response) api.Errno {
	if !isConn(conn) {
		return api.ErrArg
	}
	if !b.waits(conn) {
		return api.ErrNone
	}
	l := b.lines[conn]
	l.waits = false
	l.answers = append(l.answers, r)
	for i, f := range b.forwarded {
		if f.conn == conn {
			b.forwarded[i].answered = true
		}
	}
	return api.OK
}

// bare are the bytes of a status without a text.
func bare(status int, closes bool) string {
	return whole(status, "", closes)
}

// whole are the bytes of a status with a text.
func whole(status int, text string, closes bool) string {
	words := map[int]string{
		200: "OK", 400: "Bad Request", 401: "Unauthorized", 403: "Forbidden", 404: "Not Found", 413: "Content Too Large",
		431: "Request Header Fields Too Large", 500: "Internal Server Error", 503: "Service Unavailable", 505: "HTTP Version Not Supported",
	}[status]
	word := "keep-alive"
	if closes {
		word = "close"
	}
	return fmt.Sprintf("HTTP/1.1 %d %s\r\ncontent-length: %d\r\nconnection: %s\r\n\r\n%s", status, words, len(text), word, text)
}

// goes is that bytes go out.
func (l *line) goes(out string, closes bool) demux.Act {
	l.over = l.over || closes
	return demux.Act{Kind: 1, Out: out, Close: closes}
}

func (b *told) pick(conn int) (demux.Act, api.Errno) {
	if !isConn(conn) {
		return demux.Act{}, api.ErrArg
	}
	if !b.open(conn) {
		return demux.Act{}, api.OK
	}
	l := b.lines[conn]
	if len(l.answers) > 0 {
		r := l.answers[0]
		l.answers = nil
		ends := r.Close || l.requestEnds
		out, e := reply.Print(api.Response{Status: r.Status, Fields: r.Fields, Body: r.Body, Close: ends})
		if e != api.OK {
			out = bare(500, ends)
		}
		return l.goes(out, ends), api.OK
	}
	if l.waits {
		return demux.Act{}, api.OK
	}
	if l.lost {
		return l.goes(bare(413, true), true), api.OK
	}
	r, ok, status := l.bytes.Next()
	if status > 0 {
		return l.goes(bare(status, true), true), api.OK
	}
	if !ok {
		return demux.Act{}, api.OK
	}
	act, status, ends := b.does(conn, l, r)
	if status > 0 {
		return l.goes(bare(status, ends), ends), api.OK
	}
	l.waits, l.requestEnds = true, r.Close
	if act.Kind == 4 {
		b.forwarded = append(b.forwarded, forward{conn: conn, user: act.User})
	}
	return act, api.OK
}

// does is what a request hands on; else a status, and whether it closes.
func (b *told) does(conn int, l *line, r api.Request) (act demux.Act, status int, ends bool) {
	what := r.Head.Method + " " + r.Path
	if what == "POST /login" {
		pairs, e, _ := uri.Form(r.Body)
		name := slices.IndexFunc(pairs, func(p api.Pair) bool { return p.Name == "user" })
		word := slices.IndexFunc(pairs, func(p api.Pair) bool { return p.Name == "word" })
		if e != api.OK || name < 0 || word < 0 {
			return act, 400, r.Close
		}
		if l.user >= 0 {
			return act, 403, r.Close
		}
		return demux.Act{Kind: 2, Name: pairs[name].Value, Word: pairs[word].Value}, 0, false
	}
	var cookies []api.Pair
	for _, f := range r.Head.Fields {
		if f.Name == "cookie" {
			cookies = append(cookies, uri.Cookies(f.Value)...)
		}
	}
	first := slices.IndexFunc(cookies, func(p api.Pair) bool { return p.Name == "sid" })
	if first < 0 || b.whose(cookies[first].Value) < 0 {
		return act, 401, r.Close
	}
	token := cookies[first].Value
	user := b.whose(token)
	if l.user >= 0 && l.user != user {
		return act, 403, r.Close
	}
	conns, asks := b.counts(user)
	if l.user < 0 {
		if conns == b.conns {
			return act, 503, true
		}
		l.user = user
	}
	if what == "POST /logout" {
		return demux.Act{Kind: 3, User: user, Token: token}, 0, false
	}
	if asks == b.asks {
		return act, 503, r.Close
	}
	return demux.Act{Kind: 4, User: user, Request: r}, 0, false
}

// pair is connections, and what is told of them.
type pair struct {
	t *testing.T
	d *demux.Demux
	b *told
}

func made(t *testing.T, users, conns, asks int) *pair {
	t.Helper()
	d, e := demux.New(users, conns, asks)
	if d == nil || e != api.OK {
		t.Fatalf("New(%d, %d, %d): %v", users, conns, asks, e)
	}
	return &pair{t: t, d: d, b: tell(users, conns, asks)}
}

func (x *pair) copy() *pair {
	return &pair{t: x.t, d: x.d.Copy(), b: x.b.copy()}
}

// shown is what tells of a call, with long texts and lists cut.
func shown(v any) string {
	s := fmt.Sprintf("%+v", v)
	if text, ok := v.(string); ok {
		s = fmt.Sprintf("%q", text)
	}
	if len(s) > 400 {
		s = s[:400] + ".."
	}
	return s
}

// alike tells whether two acts are the same.
func alike(a, b demux.Act) bool {
	p, q := a.Request, b.Request
	return a.Kind == b.Kind && a.Out == b.Out && a.Close == b.Close && a.User == b.User && a.Token == b.Token && a.Name == b.Name && a.Word == b.Word &&
		p.Head.Method == q.Head.Method && p.Head.Target == q.Head.Target && p.Head.Minor == q.Head.Minor && slices.Equal(p.Head.Fields, q.Head.Fields) &&
		p.Path == q.Path && slices.Equal(p.Query, q.Query) && p.Body == q.Body && p.Close == q.Close
}

// holds holds an error against the one that is told.
func (x *pair) holds(e, want api.Errno, call string, with ...any) {
	x.t.Helper()
	if e != want {
		x.t.Fatalf("%s of %s: %v; want %v", call, shown(with), e, want)
	}
}

func (x *pair) arrive(conn int, s string) api.Errno {
	x.t.Helper()
	e := x.d.Arrive(conn, s)
	x.holds(e, x.b.arrive(conn, s), "Arrive", conn, s)
	return e
}

func (x *pair) shut(conn int) api.Errno {
	x.t.Helper()
	e := x.d.Shut(conn)
	x.holds(e, x.b.shut(conn), "Shut", conn)
	return e
}

func (x *pair) bind(token string, user int) api.Errno {
	x.t.Helper()
	e := x.d.Bind(token, user)
	x.holds(e, x.b.bind(token, user), "Bind", token, user)
	return e
}

func (x *pair) free(token string) api.Errno {
	x.t.Helper()
	e := x.d.Free(token)
	x.holds(e, x.b.free(token), "Free", token)
	return e
}

func (x *pair) answer(conn int, r api.Response) api.Errno {
	x.t.Helper()
	e := x.d.Answer(conn, r)
	x.holds(e, x.b.answer(conn, r), "Answer", conn, r)
	return e
}

func (x *pair) pick(conn int) (demux.Act, api.Errno) {
	x.t.Helper()
	want, wantE := x.b.pick(conn)
	got, e := x.d.Pick(conn)
	if e != wantE || !alike(got, want) {
		x.t.Fatalf("Pick(%d): %s, %v; want %s, %v", conn, shown(got), e, shown(want), wantE)
	}
	return got, e
}

// noConns and noUsers are numbers of none.
func noConns() []int {
	return []int{least, -1 << 32, -2, -1, 64, 65, 128, 1 << 16, 1 << 32, 1<<32 + 1, greatest}
}

func (x *pair) noUsers() []int {
	return []int{least, -1 << 32, -2, -1, x.b.users, x.b.users + 1, 16, 17, 1 << 32, 1<<32 + 1, greatest}
}

// sees holds all that is told without a change against what it should be.
func (x *pair) sees() {
	x.t.Helper()
	for k, conn := range append(noConns(), slices.Collect(x.all())...) {
		if got, want := x.d.User(conn), x.b.user(conn); got != want {
			x.t.Fatalf("%d: User(%d): %d; want %d", k, conn, got, want)
		}
		if got, want := x.d.Open(conn), x.b.open(conn); got != want {
			x.t.Fatalf("%d: Open(%d): %v; want %v", k, conn, got, want)
		}
		if got, want := x.d.Waits(conn), x.b.waits(conn); got != want {
			x.t.Fatalf("%d: Waits(%d): %v; want %v", k, conn, got, want)
		}
	}
	for user := range x.b.users {
		x.seesCounts(user)
	}
	for _, user := range x.noUsers() {
		x.seesCounts(user)
	}
}

func (x *pair) seesCounts(user int) {
	x.t.Helper()
	conns, asks := x.d.Counts(user)
	if wantConns, wantAsks := x.b.counts(user); conns != wantConns || asks != wantAsks {
		x.t.Fatalf("Counts(%d): %d, %d; want %d, %d", user, conns, asks, wantConns, wantAsks)
	}
}

// all are the numbers of all connections.
func (x *pair) all() func(yield func(int) bool) {
	return func(yield func(int) bool) {
		for conn := range 64 {
			if !yield(conn) {
				return
			}
		}
	}
}

// stands holds also what comes next against it, by a copy that goes on.
func (x *pair) stands() {
	x.t.Helper()
	x.sees()
	c := x.copy()
	for range 3 {
		for conn := range c.all() {
			c.pick(conn)
			if c.b.waits(conn) {
				c.answer(conn, reply.Plain(404, fmt.Sprint(conn), conn%5 == 0))
			}
		}
		c.sees()
	}
	for conn := range c.all() {
		if conn%2 == 0 {
			c.shut(conn)
		}
		c.arrive(conn, "GET / HTTP/1.1\r\nhost: a\r\n\r\n")
		c.pick(conn)
	}
	c.sees()
	x.sees()
}

// wantAct holds what a picked connection does against what it should do.
func (x *pair) wantAct(conn int, want demux.Act) {
	x.t.Helper()
	if got, e := x.pick(conn); e != api.OK || !alike(got, want) {
		x.t.Fatalf("Pick(%d): %s, %v; want %s", conn, shown(got), e, shown(want))
	}
}

func (x *pair) wantNothing(conn int) {
	x.t.Helper()
	x.wantAct(conn, demux.Act{})
}

// wantStatus holds that a status without a text goes out.
func (x *pair) wantStatus(conn, status int, closes bool) {
	x.t.Helper()
	x.wantText(conn, status, "", closes)
}

func (x *pair) wantText(conn, status int, text string, closes bool) {
	x.t.Helper()
	x.wantAct(conn, demux.Act{Kind: demux.Emit, Out: whole(status, text, closes), Close: closes})
	if x.d.Open(conn) == closes {
		x.t.Fatalf("%d is open: %v", conn, !closes)
	}
}

func (x *pair) wantLogin(conn int, name, word string) {
	x.t.Helper()
	x.wantAct(conn, demux.Act{Kind: demux.Login, Name: name, Word: word})
	x.wantWaits(conn, true)
}

func (x *pair) wantLogout(conn int, token string, user int) {
	x.t.Helper()
	x.wantAct(conn, demux.Act{Kind: demux.Logout, Token: token, User: user})
	x.wantWaits(conn, true)
}

// wantForward holds that the request of that text is handed on for a user.
func (x *pair) wantForward(conn, user int, text string) {
	x.t.Helper()
	all, status := parse.All(text)
	if len(all) != 1 || status != 0 {
		x.t.Fatalf("the test's own text is none of one request: %s", shown(text))
	}
	x.wantAct(conn, demux.Act{Kind: demux.Forward, User: user, Request: all[0]})
	x.wantWaits(conn, true)
	x.wantUser(conn, user)
}

func (x *pair) wantWaits(conn int, want bool) {
	x.t.Helper()
	if got := x.d.Waits(conn); got != want {
		x.t.Fatalf("Waits(%d): %v", conn, got)
	}
}

func (x *pair) wantUser(conn, want int) {
	x.t.Helper()
	if got := x.d.User(conn); got != want {
		x.t.Fatalf("User(%d): %d; want %d", conn, got, want)
	}
}

func (x *pair) wantCounts(user, conns, asks int) {
	x.t.Helper()
	if c, a := x.d.Counts(user); c != conns || a != asks {
		x.t.Fatalf("Counts(%d): %d, %d; want %d, %d", user, c, a, conns, asks)
	}
}

// want holds an error against the one that should be.
func (x *pair) want(e, want api.Errno) {
	x.t.Helper()
	if e != want {
		x.t.Fatalf("%v; want %v", e, want)
	}
}

const ends = "Connection: close"

// get is the text of a request without a body.
func get(path string, fields ...string) string {
	return request("GET", path, fields...)
}

func request(method, path string, fields ...string) string {
	return method + " " + path + " HTTP/1.1\r\nHost: a\r\n" + strings.Join(append(fields, "", ""), "\r\n")
}

// post is the text of a request with a body.
func post(path, body string, fields ...string) string {
	return request("POST", path, append(fields, fmt.Sprint("Content-Length: ", len(body)))...) + body
}

// sid is a field with a token.
func sid(token string) string { return "Cookie: sid=" + token }

// draw is what is drawn by a seed.
type draw struct {
	*rand.Rand
	users int
	// next are the texts that have begun to arrive, by their connections.
	next map[int]string
}

func draws(seed int64, users int) *draw {
	return &draw{rand.New(rand.NewSource(seed)), users, map[int]string{}}
}

// one is one of some.
func one[T any](d *draw, of ...T) T { return of[d.Intn(len(of))] }

// token is one of few; some of them are somebody's.
func (d *draw) token() string { return fmt.Sprint("t", d.Intn(2*d.users+2)) }

// fields are those that tell whose a request is, and whether it closes.
func (d *draw) fields() []string {
	var out []string
	switch n := d.Intn(30); {
	case n < 22:
		out = append(out, sid(d.token()))
	case n < 24:
		out = append(out, "cookie: a=b;  sid="+d.token()+" ; sid="+d.token())
	case n < 26:
		out = append(out, "COOKIE: sid", "Cookie: SID=t1; sid="+d.token(), sid(d.token()))
	case n < 27:
		out = append(out, sid(""), sid(d.token()))
	}
	if d.Intn(25) == 0 {
		out = append(out, ends)
	}
	return out
}

// text is a request, or bytes of none.
func (d *draw) text() string {
	switch n := d.Intn(40); {
	case n < 18:
		return request(one(d, "GET", "PUT", "POST"), one(d, "/", "/a?b=c", "/x%20y", "/logins", "/login/"), d.fields()...)
	case n < 24:
		return post(one(d, "/", "/b", "/Login"), strings.Repeat("b", d.Intn(300)), d.fields()...)
	case n < 26:
		return request("POST", one(d, "/", "/login"), append(d.fields(), "Transfer-Encoding: chunked")...) + "b\r\nuser=a&word\r\n2;x\r\n=w\r\n0\r\n\r\n"
	case n < 31:
		form := one(d, "user=a&word=w", "user=a&word=w", "user=a&word=w&user=b&word=v", "word=&user=", "user=a", "word=w", "", "user=%&word=w", "USER=a&word=w", "user&word", "user=%41+b&word=%26")
		return post(one(d, "/login", "/login?a=b", "/%6Cogin"), form, d.fields()...)
	case n < 35:
		return request(one(d, "POST", "POST", "GET"), one(d, "/logout", "/logout?x", "/%6cogout"), d.fields()...)
	case n < 38:
		return strings.Replace(get("/old", d.fields()...), "1.1", "1.0", 1)
	case n < 39:
		return one(d, "\r\n\r\n", "x\r\n\r\n", strings.Replace(get("/"), "1.1", "2.0", 1), "GET / HTTP/1.1\r\n\r\n", post("/", "b", "Transfer-Encoding: chunked"))
	}
	return one(d, post("/", strings.Repeat("b", 16384)), request("POST", "/", "Content-Length: 16385"), get("/", sid("t1"), "A: "+strings.Repeat("a", 1024)), strings.Repeat("a", 4096))
}

// part is what arrives next at a connection.
func (d *draw) part(conn int) string {
	if d.Intn(300) == 0 {
		return strings.Repeat("b", d.Intn(65537))
	}
	for len(d.next[conn]) < 1 || d.Intn(3) == 0 {
		d.next[conn] += d.text()
	}
	n := d.Intn(len(d.next[conn])) + 1
	if d.Intn(3) == 0 {
		n = len(d.next[conn])
	}
	part := d.next[conn][:min(n, feed)]
	d.next[conn] = d.next[conn][len(part):]
	return part
}

// conn is one of few, but seldom none.
func (d *draw) conn() int {
	if d.Intn(60) == 0 {
		return one(d, noConns()...)
	}
	return one(d, 0, 1, 2, 3, 31, 62, 63, d.Intn(64))
}

// user is one, but seldom none.
func (d *draw) user() int {
	if d.Intn(40) == 0 {
		return one(d, -1, d.users, d.users+1, least, greatest)
	}
	return d.Intn(d.users)
}

// response is one, of whatever kind.
func (d *draw) response() api.Response {
	r := reply.Plain(one(d, 200, 200, 204, 299, 404, 500, 599), strings.Repeat("c", d.Intn(40)), d.Intn(20) == 0)
	switch d.Intn(12) {
	case 0:
		r.Status = one(d, 0, 199, 600, -1, greatest)
	case 1:
		r.Fields = []api.Pair{{Name: one(d, "connection", "A", "", "content-length"), Value: "v"}}
	case 2, 3:
		r.Fields = []api.Pair{{Name: "set-cookie", Value: "sid=t"}, {Name: "a", Value: ""}}
	}
	return r
}

// call does one call.
func (d *draw) call(x *pair) {
	x.t.Helper()
	switch n := d.Intn(100); {
	case n < 30:
		conn := d.conn()
		x.arrive(conn, d.part(conn))
	case n < 70:
		x.pick(d.conn())
	case n < 87:
		x.answer(d.conn(), d.response())
	case n < 94:
		x.bind(one(d, d.token(), d.token(), d.token(), "", "~"), d.user())
	case n < 98:
		x.free(one(d, d.token(), ""))
	case n < 99:
		x.shut(d.conn())
	}
}
