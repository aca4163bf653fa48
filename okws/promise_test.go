package okws_test

import (
	"cloister/api"
	"cloister/demux"
	"cloister/okws"
	"fmt"
	"slices"
	"strings"
	"testing"
)

// Of the promises that tell of two runs the user is the first one.
const first = 0

// twins are two webs by scripts that differ in what arrives at connections of
// other users by then.
type twins struct {
	*draw
	x, y *pair
	// rest are the bytes that are yet to arrive at a connection, of each one.
	rest map[int][2]string
	// hidden are categories that the user must not be given.
	hidden []int
	// compared is how many responses the user saw, differed how many the others
	// did which were others in the other web.
	compared, differed int
}

// isAlien tells whether a connection is another user's, in both.
func (w *twins) isAlien(conn int) bool {
	return w.x.w.User(conn) > first && w.y.w.User(conn) > first
}

// quiet is a command that uses nothing of what is owned.
func (w *twins) quiet(open bool) command {
	for {
		c := w.command(w.x)
		var b body
		c(&b)
		// Of the commands that might use something the last number says so.
		asks := slices.ContainsFunc(b.commands, func(n byte) bool {
			return n == 128+api.SysGive || n == 128+api.SysSend || n == 128+api.SysInsert || n == 128+api.SysUpdate || n == 128+api.SysDelete
		})
		if !asks || !open {
			return c
		}
		if w.Intn(2) == 0 {
			return one(w.draw, insert(w.key(), w.cell(), 0), update(w.key(), w.cell(), 0), remove(w.key(), 0), send(w.Intn(3), w.cell(), 0))
		}
	}
}

// bodies are two of one size, of which as many commands are the same.
func (w *twins) bodies(open bool) (a, b string) {
	var common, mine, others []command
	for range w.Intn(3) {
		common = append(common, w.command(w.x))
	}
	for range w.Intn(5) {
		mine, others = append(mine, w.quiet(open)), append(others, w.quiet(open))
	}
	a, _ = whole(append(common[:len(common):len(common)], mine...)...)
	b, _ = whole(append(common[:len(common):len(common)], others...)...)
	n := max(len(a), len(b))
	return fitted(a, n), fitted(b, n)
}

// fitted is a text of so many bytes that begins with one.
func fitted(s string, n int) string {
	return (s + strings.Repeat("\x00", n))[:n]
}

// texts are two of one size that may arrive at a connection: others, if it is
// another user's.
func (w *twins) texts(conn int) [2]string {
	if !w.isAlien(conn) {
		s := w.text(w.x, conn)
		return [2]string{s, s}
	}
	user := w.x.w.User(conn)
	field := sid(w.x.tokens[user])
	if w.Intn(8) == 0 {
		s := one(w.draw, gets("/aaaaaaaaaaaaa", field), gets("/?a=bbbbbbbbbbb", field))
		other := one(w.draw, "x\r\n\r\n", gets("/", field, ends), gets("/b?c=ddddddddd", field))
		return [2]string{s, fitted(other, len(s))}
	}
	a, b := w.bodies(w.x.b.c.Users[user].Open)
	return [2]string{posts("/", a, field), posts("/", b, field)}
}

// next is a step, of each one.
func (w *twins) next() (api.Step, api.Step) {
	s := w.step(w.x)
	if s.Kind != api.StepArrive || s.At < 0 || s.At > 63 {
		return s, s
	}
	rest := w.rest[s.At]
	if rest[0] == "" {
		rest = w.texts(s.At)
	}
	n := len(rest[0])
	if w.Intn(5) == 0 {
		n = w.Intn(n + 1)
	}
	w.rest[s.At] = [2]string{rest[0][n:], rest[1][n:]}
	other := s
	s.Bytes, other.Bytes = rest[0][:n], rest[1][:n]
	return s, other
}

// foreign are the uses of what the user does not own.
func foreign(l api.Log) []api.Use {
	return slices.DeleteFunc(l.Uses, func(u api.Use) bool { return u.Who == first })
}

// may tells whether the promise says something of what came so far.
func (w *twins) may() bool {
	a, b := w.x.w.Log(), w.y.w.Log()
	for _, l := range []api.Log{a, b} {
		for _, g := range l.Grants {
			if g.To == first && g.Step >= 0 && (g.Cat > 2 && g.Cat < 1000 && g.Cat%2 == 1 || slices.Contains(w.hidden, g.Cat)) {
				return false
			}
		}
	}
	return fmt.Sprint(a.Tokens) == fmt.Sprint(b.Tokens) && fmt.Sprint(foreign(a)) == fmt.Sprint(foreign(b))
}

// goOn does a step of both, and holds what the user sees against one another.
func (w *twins) goOn(s, other api.Step) bool {
	out, e := w.x.tries(s)
	alike, f := w.y.tries(other)
	if !w.may() {
		return false
	}
	if e != f {
		w.x.t.Fatalf("%v, %v", e, f)
	}
	differ := !slices.Equal(out, alike)
	for _, o := range append(slices.Clone(out), alike...) {
		if w.x.w.User(o.Conn) != first && w.y.w.User(o.Conn) != first {
			w.differed += map[bool]int{true: 1}[differ]
			continue
		}
		if differ {
			w.x.t.Fatalf("step %s: %s, %s", shown(s), shown(out), shown(alike))
		}
		w.compared++
	}
	return true
}

// P1: two runs that differ in what arrives at connections of others, or in rows
// that the user does not see.
func TestNothingFlows(t *testing.T) {
	compared, differed, whole := 0, 0, 0
	for seed := range int64(160) {
		d := draws(seed)
		c := config(t, 3, one(d, 0, 1, 0, 1, 2, 3, 7))
		c.Conns, c.Asks, c.Quota, c.Fuel = one(d, 4, 64), one(d, 2, 64), one(d, 100, 1000), one(d, 1000, 10000)
		c.Rows = slices.DeleteFunc(d.rows(3), isHidden)
		w := &twins{draw: d, rest: map[int][2]string{}, hidden: []int{3, 5, 2000}}
		other := c
		if seed%2 == 0 {
			c.Rows = append(slices.Clone(c.Rows), hidden(d)...)
			other.Rows = append(slices.Clone(other.Rows), hidden(d)...)
		}
		w.x, w.y = all(t, c), all(t, other)
		steps := 0
		for steps < 400 && w.goOn(w.next()) {
			steps++
		}
		compared, differed, whole = compared+w.compared, differed+w.differed, whole+steps/400
	}
	if compared < 2000 || differed < 500 || whole < 50 {
		t.Error(compared, differed, whole)
	}
}

// isHidden tells whether a row has a secrecy of another user.
func isHidden(r api.Row) bool {
	return slices.ContainsFunc(r.Label.S, func(cat int) bool { return cat != 1 && cat != 2 && cat != 1000 })
}

// hidden are rows that the user does not see.
func hidden(d *draw) []api.Row {
	var out []api.Row
	for _, key := range []string{"a", "k", "ka", "b", "c"} {
		for _, s := range [][]int{{3}, {1, 3}, {5}, {2000}, {1000, 2000}} {
			if d.Intn(2) == 0 {
				out = append(out, api.Row{Key: key, Cells: []string{fmt.Sprint("hidden", d.Intn(100))}, Label: api.Label{S: s, I: one(d, nil, []int{4})}, Who: -1})
			}
		}
	}
	return out
}

// P1, of what a worker may try: all that one which is not open does, with what it
// read, changes nothing of what another one sees.
func TestTriesToTell(t *testing.T) {
	tries := []command{
		insert("k", "v", 1), insert("k", "v", 0), update("there", "v", 1), update("there", "v", 0), remove("there", 1), remove("vouched", 1),
		send(0, "told", 1), send(0, "told", 0), gives(0, 3), gives(0, 4), gives(0, 2000), insert("much", strings.Repeat("m", 200), 0), does('L'), does('F'), makes(),
	}
	c := config(t, 2, 0b01)
	c.Quota, c.Fuel = 250, 10000
	c.Rows = []api.Row{
		{Key: "there", Cells: []string{"plain"}, Who: -1},
		{Key: "vouched", Cells: []string{"by 1"}, Label: api.Label{I: []int{4}}, Who: -1},
		{Key: "made", Cells: []string{"for 2000"}, Label: api.Label{S: []int{2000}}, Who: -1},
	}
	looks := []command{get("k"), get("there"), get("vouched"), get("made"), count(""), recv(), insert("mine", strings.Repeat("m", 200), 0), update("vouched", "w", 1), remove("vouched", 1), gives(1, 4), who(), makes()}
	for set := range 1 << len(tries) {
		if set%37 != 0 && set&(set-1) != 0 {
			continue
		}
		var some []command
		for k, one := range tries {
			if set>>k&1 == 1 {
				some = append(some, one)
			}
		}
		x := all(t, c)
		x.asks(1, makes())
		x.asks(1, some...)
		x.wants(0, "-1 5:plain 4:by 1 -1 2 -1 0 21 21 3 0 1000", looks...)
		x.wantUses()
	}
}

// P2, P3, P4: by what goes in and out alone.
func TestPromised(t *testing.T) {
	owners, begun, refusals, changes := 0, 0, 0, 0
	for seed := range int64(60) {
		d := draws(seed + 5000)
		c := d.config(t)
		if d.Intn(2) == 0 {
			c.Conns, c.Asks = 1+d.Intn(3), 1+d.Intn(2)
		}
		x := made(t, c)
		if d.Intn(2) == 0 {
			x = all(t, c)
		}
		came := map[int]string{}
		for _, s := range x.steps {
			came[s.At] += s.Bytes
		}
		for range 600 {
			s := d.step(x)
			if d.Intn(5) == 0 && x.w.Steps() < 300 {
				who := d.Intn(len(c.Users))
				s = api.Step{Kind: api.StepArrive, At: d.conn(x), Bytes: signIn(who, one(d, word(who), "wa"))}
			}
			was, full := x.users(), x.full()
			tokens := len(x.w.Log().Tokens)
			out, e := x.tries(s)
			if e == api.OK && s.Kind == api.StepArrive {
				came[s.At] += s.Bytes
			}
			for _, o := range out {
				if strings.HasPrefix(o.Bytes, "HTTP/1.1 503 ") {
					refusals++
					x.wantFull(o, full)
				}
			}
			owners += x.wantOwners(s, was, came)
			begun += x.wantBegun(s, tokens, came)
		}
		changes += x.wantOwned()
	}
	if owners < 100 || begun < 100 || refusals < 50 || changes < 100 {
		t.Error(owners, begun, refusals, changes)
	}
}

// users are whose the connections are.
func (x *pair) users() [64]int {
	var out [64]int
	for conn := range out {
		out[conn] = x.w.User(conn)
	}
	return out
}

// full tells of each user whether it has as many open connections as it may, and
// as many requests.
func (x *pair) full() [][2]bool {
	var out [][2]bool
	for user := range x.b.c.Users {
		conns, asks := x.b.conns.Counts(user)
		out = append(out, [2]bool{conns >= x.b.c.Conns, asks >= x.b.c.Asks})
	}
	return out
}

// wantFull holds a 503 against who had as much as it may have (P4).
func (x *pair) wantFull(o api.Out, full [][2]bool) {
	x.t.Helper()
	user := x.w.User(o.Conn)
	if user < 0 {
		// It did not become that user's: whose it would be it does not tell.
		if !slices.ContainsFunc(full, func(f [2]bool) bool { return f[0] }) || !o.Close {
			x.t.Fatal(o, full)
		}
	} else if !full[user][1] {
		x.t.Fatal(o, user, full)
	}
}

// live tells whether a token is a session of a user, by what was noted.
func (x *pair) live() map[string]int {
	out := map[string]int{}
	for _, n := range x.w.Log().Tokens {
		if n.On {
			out[n.Token] = n.User
		} else {
			delete(out, n.Token)
		}
	}
	return out
}

// wantOwners holds whose connections became against the cookies that came (P2):
// how many became somebody's.
func (x *pair) wantOwners(s api.Step, was [64]int, came map[int]string) int {
	x.t.Helper()
	n := 0
	for conn, before := range was {
		now := x.w.User(conn)
		if now == before {
			continue
		}
		if before >= 0 || s.Kind != api.StepConn || s.At != conn {
			x.t.Fatalf("%d was %d's, now %d's: %+v", conn, before, now, s)
		}
		carried := false
		for token, user := range x.live() {
			carried = carried || user == now && strings.Contains(came[conn], "sid="+token)
		}
		if !carried {
			x.t.Fatalf("%d became %d's by no session of it", conn, now)
		}
		n++
	}
	return n
}

// wantBegun holds a session that began against the login that came (P2): how many
// began.
func (x *pair) wantBegun(s api.Step, tokens int, came map[int]string) int {
	x.t.Helper()
	n := 0
	for _, one := range x.w.Log().Tokens[tokens:] {
		if s.Kind != api.StepIdd || one.Step != x.w.Steps()-1 {
			x.t.Fatal(s, one)
		}
		if !one.On {
			continue
		}
		if login := fmt.Sprintf("user=%c&word=%s", 'a'+one.User, word(one.User)); !strings.Contains(came[s.At], login) {
			x.t.Fatalf("a session of %d began by %q", one.User, came[s.At])
		}
		n++
	}
	return n
}

// wantOwned holds the changes against what was owned by then, and that against
// the grants (P3): how many changes there are.
func (x *pair) wantOwned() int {
	x.t.Helper()
	l := x.w.Log()
	type owns struct{ who, cat int }
	own := map[owns]bool{}
	grants := l.Grants
	grant := func(before int) {
		for len(grants) > 0 && grants[0].Step < before {
			g := grants[0]
			if g.From >= 0 && !own[owns{g.From, g.Cat}] {
				x.t.Fatal("it gave what it did not own:", g)
			}
			own[owns{g.To, g.Cat}] = true
			grants = grants[1:]
		}
	}
	for _, c := range l.Changes {
		grant(c.Step)
		for _, cat := range c.I {
			if !own[owns{c.Who, cat}] {
				x.t.Fatal("it changed what it does not vouch for:", c)
			}
		}
	}
	grant(greatest)
	return len(l.Changes)
}

// Wrong requests, with the status of each.
func wrongRequests(token string) map[string]int {
	long := strings.Repeat("x", 5000)
	field := sid(token)
	return map[string]int{
		"x\r\n\r\n":                                                                                  400,
		"GET /\r\n\r\n":                                                                              400,
		"GET  / HTTP/1.1\r\nHost: a\r\n\r\n":                                                         400,
		"GET / HTTP/1.1\r\n" + field + "\r\n\r\n":                                                    400, // no host
		"GET x HTTP/1.1\r\nHost: a\r\n" + field + "\r\n\r\n":                                         400,
		"GET /%0 HTTP/1.1\r\nHost: a\r\n" + field + "\r\n\r\n":                                       400,
		"GET / HTTP/1.1\r\nHost: a\r\n" + field + " \r\nA b: c\r\n\r\n":                              400,
		"GET / HTTP/1.1\nHost: a\n\n" + field:                                                        400,
		request("POST", "/", field, "Content-Length: 1", "Content-Length: 2") + "ab":                 400,
		request("POST", "/", field, "Content-Length: -1"):                                            400,
		request("POST", "/", field, "Content-Length: 3", "Transfer-Encoding: chunked") + "0\r\n\r\n": 400,
		request("POST", "/", field, "Transfer-Encoding: chunked") + "z\r\n\r\n":                      400,
		request("POST", "/", field, "Transfer-Encoding: chunked") + "1\r\nab\r\n0\r\n\r\n":           400,
		request("POST", "/", field, "Content-Length: 16385"):                                         413,
		request("POST", "/", field, "Transfer-Encoding: chunked") + "4001\r\n":                       413,
		"GET / HTTP/1.1\r\nHost: a\r\nX: " + long + "\r\n" + field + "\r\n\r\n":                      431,
		"GET /" + long + " HTTP/1.1\r\nHost: a\r\n" + field + "\r\n\r\n":                             431,
		gets("/", field, strings.TrimSuffix(strings.Repeat("a: b\r\n", 33), "\r\n")):                 431,
		"GET / HTTP/2.0\r\nHost: a\r\n" + field + "\r\n\r\n":                                         505,
		"GET / HTTP/1.7\r\nHost: a\r\n" + field + "\r\n\r\n":                                         505,
	}
}

// P7: what is no request is answered by its status, and closes; no event process
// sees it, nor what stands behind it.
func TestWrongRequests(t *testing.T) {
	fresh := all(t, config(t, 2, 0b11))
	token := fresh.tokens[0]
	right, _ := whole(insert("seen", "", 1), makes())
	for text, status := range wrongRequests(token) {
		for _, owned := range []bool{false, true} {
			for _, size := range []int{len(text), 100, 7} {
				x := fresh.copy()
				if owned {
					x.wants(0, "0", who())
				}
				for at := 0; at < len(text); at += size {
					x.arrive(0, text[at:min(at+size, len(text))])
				}
				x.arrive(0, posts("/", right, sid(token)))
				out, _ := x.tries(api.Step{Kind: api.StepConn, At: 0})
				if len(out) != 1 || !out[0].Close {
					t.Fatalf("%s: %v", shown(text), out)
				}
				if r := x.parsedReply(out[0].Bytes); r.Status != status || r.Body != "" || len(r.Fields) > 0 || !r.Close {
					t.Fatalf("%s: %+v; want %d", shown(text), r, status)
				}
				x.arrive(0, posts("/", right, sid(token)))
				for range 2 {
					x.wantNothing(0)
					x.idd(0)
					x.worker(0, 1<<20)
					x.table(0)
				}
				x.wantBusy(0, false)
				x.wantChanges()
				x.wantGrants()
				if x.w.User(0) != map[bool]int{true: 0, false: -1}[owned] {
					t.Error(x.w.User(0))
				}
				x.wants(1, "0", count("seen"))
			}
		}
	}
}

// P7: a wrong request behind right ones; these are done.
func TestWrongBehindRight(t *testing.T) {
	fresh := all(t, config(t, 1, 1))
	for text, status := range wrongRequests(fresh.tokens[0]) {
		x := fresh.copy()
		body, b := whole(insert("k", "v", 1), get("k"))
		x.arrive(0, posts("/", body, sid(x.tokens[0]))+text+gets("/", sid(x.tokens[0])))
		x.wantNothing(0)
		x.wantBusy(0, true)
		x.wantNothing(0)
		x.finish(0)
		if got := b.reads(x.parsedReply(x.conn(0))); got != "0 1:v" {
			t.Fatal(got)
		}
		x.wantStatus(0, status, true)
		x.wantBusy(0, false)
		x.wantNothing(0)
	}
}

// idle tells whether a unit has nothing to do, by what is told.
func (x *pair) idle(s api.Step) bool {
	_, door := x.b.doors[s.At]
	switch s.Kind {
	case api.StepConn:
		act, _ := x.b.conns.Copy().Pick(s.At)
		return act.Kind == demux.Nothing
	case api.StepIdd:
		return !door
	case api.StepWorker:
		return !x.b.busy(s.At) || x.b.wishes[s.At] != nil
	}
	return x.b.wishes[s.At] == nil
}

// withoutSteps is the log as it were, were no steps told.
func withoutSteps(l api.Log) string {
	for k := range l.Grants {
		l.Grants[k].Step = 0
	}
	for k := range l.Uses {
		l.Uses[k].Step = 0
	}
	for k := range l.Changes {
		l.Changes[k].Step = 0
	}
	for k := range l.Tokens {
		l.Tokens[k].Step = 0
	}
	return fmt.Sprintf("%+v", l)
}

// Ok3: picks of units that have nothing to do, wherever they stand, change nothing
// but the number of steps.
func TestIdlePicks(t *testing.T) {
	idle := map[int]int{}
	for seed := range int64(30) {
		d := draws(seed + 700)
		x := d.web(t)
		y := x.copy()
		for range 250 {
			s := d.step(x)
			a, e := x.tries(s)
			b, f := y.tries(s)
			if e != f || len(a) != len(b) || len(a) > 0 && (a[0].Bytes != b[0].Bytes || a[0].Close != b[0].Close || a[0].Conn != b[0].Conn) {
				t.Fatalf("%s: %v, %v; without the idle picks %v, %v", shown(s), b, f, a, e)
			}
			for range d.Intn(6) {
				p := api.Step{Kind: api.StepConn + d.Intn(4), At: d.Intn(64), Ticks: one(d, 1, 1<<20)}
				if p.Kind >= api.StepWorker {
					p.At %= len(y.b.c.Users)
				}
				if !y.idle(p) {
					continue
				}
				before, log := y.w.Steps(), fmt.Sprint(y.w.Log(), y.w.Rows())
				if out := y.step(p); out != "" || y.w.Steps() != before+1 || fmt.Sprint(y.w.Log(), y.w.Rows()) != log {
					t.Fatalf("%+v: %q", p, out)
				}
				idle[p.Kind]++
			}
		}
		if withoutSteps(x.w.Log()) != withoutSteps(y.w.Log()) || fmt.Sprint(x.w.Rows()) != fmt.Sprint(y.w.Rows()) {
			t.Fatal("idle picks changed something")
		}
		y.sees()
	}
	if len(idle) != 4 || idle[api.StepTable] < 100 || idle[api.StepWorker] < 100 {
		t.Error(idle)
	}
}

// Ok4: the same steps of a user's own, and others' of whatever kind between them,
// as long as these use nothing: it is answered the same, in the same order.
func TestOwnPicks(t *testing.T) {
	answers := 0
	for seed := range int64(40) {
		d := draws(seed + 900)
		c := config(t, 3, d.Intn(2))
		c.Quota, c.Fuel, c.Asks = one(d, 100, 1000), one(d, 1000, 10000), one(d, 2, 64)
		c.Rows = d.rows(3)
		start := all(t, c)
		// The user's own steps, at the connections 0 to 2, when it is alone.
		alone := start.copy()
		var own []api.Step
		for range 200 {
			s := d.ownStep(alone)
			own = append(own, s)
			alone.step(s)
		}
		want := ofConns(alone.outs[len(start.outs):])
		answers += len(want)
		for range 2 {
			x := start.copy()
			for _, s := range own {
				for range d.Intn(6) {
					x.step(d.othersStep(x))
				}
				x.step(s)
			}
			if got := ofConns(x.outs[len(start.outs):]); fmt.Sprintf("%q", got) != fmt.Sprintf("%q", want) {
				t.Fatalf("%d: %s; want %s", seed, shown(got), shown(want))
			}
		}
	}
	if answers < 400 {
		t.Error(answers)
	}
}

// ofConns are what went out at the first three connections, without steps.
func ofConns(outs []api.Out) []string {
	var out []string
	for _, o := range outs {
		if o.Conn < 3 {
			out = append(out, fmt.Sprint(o.Conn, o.Close, o.Bytes))
		}
	}
	return out
}

// post is a request of a user with so many commands.
func (d *draw) post(x *pair, user, n int) string {
	return posts("/", d.body(x, n), sid(x.tokens[user]))
}

// ownStep is one of the user's own units.
func (d *draw) ownStep(x *pair) api.Step {
	conn := d.Intn(3)
	switch n := d.Intn(10); {
	case n < 3:
		return api.Step{Kind: api.StepArrive, At: conn, Bytes: d.post(x, first, d.Intn(5))}
	case n < 6:
		return api.Step{Kind: api.StepConn, At: conn}
	case n < 8:
		return api.Step{Kind: api.StepWorker, At: first, Ticks: one(d, 100, 1000, 1<<20)}
	}
	return api.Step{Kind: api.StepTable, At: first}
}

// othersStep is one of the others' units.
func (d *draw) othersStep(x *pair) api.Step {
	conn, user := 10+d.Intn(20), 1+d.Intn(2)
	switch n := d.Intn(10); {
	case n < 3:
		return api.Step{Kind: api.StepArrive, At: conn, Bytes: one(d, d.post(x, user, d.Intn(5)), signIn(user, word(user)), "x\r\n\r\n")}
	case n < 6:
		return api.Step{Kind: api.StepConn, At: conn}
	case n < 7:
		return api.Step{Kind: api.StepIdd, At: conn}
	case n < 9:
		return api.Step{Kind: api.StepWorker, At: user, Ticks: one(d, 100, 1000, 1<<20)}
	}
	return api.Step{Kind: api.StepTable, At: user}
}

// Ok4: what others used is seen; what they did else is not.
func TestOthersUses(t *testing.T) {
	c := config(t, 2, 0b10)
	c.Rows = []api.Row{{Key: "mine", Label: api.Label{S: []int{1}, I: []int{4}}, Who: -1}}
	x := all(t, c)
	alone := x.copy()
	x.wants(1, "0 0 0 0", insert("k", "used", 1), send(0, "used", 1), insert("k", "own", 0), gives(0, 4))
	x.wants(0, "4:used 2 4:used 0", get("k"), count(""), recv(), update("mine", "w", 0))
	alone.wants(0, "-1 1 -1 21", get("k"), count(""), recv(), update("mine", "w", 0))
}

// The web of a configuration is that of layers below: many webs at one time know
// nothing of one another.
func TestWebsApart(t *testing.T) {
	a, b := all(t, config(t, 2, 0)), all(t, config(t, 2, 0))
	a.wants(0, "0 0", insert("k", "a", 0), send(0, "m", 0))
	b.wants(0, "-1 -1", get("k"), recv())
	if a.tokens[0] != b.tokens[0] {
		t.Error("the same configuration, and the same steps")
	}
	var none *okws.Web
	if none.Steps() != 0 {
		t.Error("none")
	}
}
