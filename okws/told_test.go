package okws_test

import (
	"cloister/api"
	"cloister/demux"
	"cloister/ep"
	"cloister/idd"
	"cloister/okws"
	"cloister/port"
	"cloister/store"
	"fmt"
	"math"
	"slices"
	"strings"
	"testing"
)

const (
	least    = math.MinInt
	greatest = math.MaxInt
	feed     = 65536
)

// told is a web as the document tells of it, another way than the program does:
// by the layers below, with one list of all requests that were ever handed on, a
// few instructions at a time, and with all traps in one place.
type told struct {
	c        api.Config
	people   *idd.Idd
	conns    *demux.Demux
	rows     *store.Store
	mail     *port.Ports
	eps      []*ep.Ep
	requests []asked
	doors    map[int]demux.Act
	wishes   []*wish
	steps    int
	log      api.Log
}

// asked is a request that was handed on.
type asked struct {
	user, conn int
	text       string
	state      int
}

// The states of such a request.
const (
	waits = iota
	goesOn
	answered
)

// wish is what an event process waits for.
type wish struct {
	op       api.Op
	at, most int
}

func tell(c api.Config) *told {
	b := &told{c: c, doors: map[int]demux.Act{}}
	n := len(c.Users)
	b.people, _ = idd.New(c.Users, c.Draws)
	b.conns, _ = demux.New(n, c.Conns, c.Asks)
	b.rows, _ = store.New(n, c.Quota)
	b.mail, _ = port.New(n, 64)
	for _, r := range c.Rows {
		b.rows.Load(r)
	}
	for range n {
		p, _ := ep.New(c.Code, c.Image)
		b.eps = append(b.eps, p)
		b.wishes = append(b.wishes, nil)
	}
	return b
}

func (b *told) copy() *told {
	c := *b
	c.people, c.conns, c.rows, c.mail = b.people.Copy(), b.conns.Copy(), b.rows.Copy(), b.mail.Copy()
	c.eps = nil
	for _, p := range b.eps {
		c.eps = append(c.eps, p.Copy())
	}
	c.requests, c.wishes = slices.Clone(b.requests), slices.Clone(b.wishes)
	c.doors = map[int]demux.Act{}
	for at, act := range b.doors {
		c.doors[at] = act
	}
	c.log.Uses, c.log.Changes, c.log.Tokens = slices.Clone(b.log.Uses), slices.Clone(b.log.Changes), slices.Clone(b.log.Tokens)
	return &c
}

func (b *told) mayBe(s api.Step) bool {
	conn := s.At >= 0 && s.At <= 63
	user := s.At >= 0 && s.At < len(b.c.Users)
	return map[int]bool{
		api.StepArrive: conn && len(s.Bytes) <= feed,
		api.StepClose:  conn,
		api.StepConn:   conn,
		api.StepIdd:    conn,
		api.StepWorker: user && s.Ticks >= 1 && s.Ticks <= 1048576,
		api.StepTable:  user,
	}[s.Kind]
}

func (b *told) step(s api.Step) ([]api.Out, api.Errno) {
	if b.steps >= 65536 {
		return nil, api.ErrFull
	}
	if !b.mayBe(s) {
		return nil, api.ErrArg
	}
	var out []api.Out
	switch s.Kind {
	case api.StepArrive:
		b.conns.Arrive(s.At, s.Bytes)
	case api.StepClose:
		b.conns.Shut(s.At)
	case api.StepConn:
		out = b.conn(s.At)
	case api.StepIdd:
		b.door(s.At)
	case api.StepWorker:
		b.work(s.At, s.Ticks)
	default:
		b.table(s.At)
	}
	b.steps++
	return out, api.OK
}

func (b *told) conn(conn int) []api.Out {
	act, _ := b.conns.Pick(conn)
	if act.Kind == 1 {
		return []api.Out{{Step: b.steps, Conn: conn, Bytes: act.Out, Close: act.Close}}
	}
	if act.Kind == 2 || act.Kind == 3 {
		b.doors[conn] = act
	}
	if act.Kind == 4 {
		r := act.Request
		var query []string
		for _, p := range r.Query {
			query = append(query, percent(p.Name)+"="+percent(p.Value))
		}
		text := fmt.Sprintf("%s %s\n%s\n%s", r.Head.Method, r.Path, strings.Join(query, "&"), r.Body)
		b.requests = append(b.requests, asked{user: act.User, conn: conn, text: text})
	}
	return nil
}

// percent writes bytes that are not plain as percent signs.
func percent(s string) string {
	var out strings.Builder
	for _, c := range []byte(s) {
		if strings.ContainsRune("-._~0123456789ABCDEFGHIJKLMNOPQRSTUVWXYZabcdefghijklmnopqrstuvwxyz", rune(c)) {
			out.WriteByte(c)
		} else {
			fmt.Fprintf(&out, "%%%02X", c)
		}
	}
	return out.String()
}

// live are all sessions, by whose they are.
func (b *told) live() [][]string {
	var all [][]string
	for who := range b.c.Users {
		all = append(all, b.people.Tokens(who))
	}
	return all
}

func (b *told) door(conn int) {
	act, there := b.doors[conn]
	if !there {
		return
	}
	delete(b.doors, conn)
	was := b.live()
	r := api.Response{Status: 401}
	if act.Kind == 2 {
		if token, _, e := b.people.Login(act.Name, act.Word); e == api.OK {
			r = api.Response{Status: 200, Fields: []api.Pair{{Name: "set-cookie", Value: "sid=" + token}}, Body: "welcome"}
		}
	} else if _, e := b.people.Logout(act.Token); e == api.OK {
		r = api.Response{Status: 200, Body: "bye"}
	}
	is := b.live()
	for who := range was {
		for _, token := range was[who] {
			if !slices.Contains(is[who], token) {
				b.conns.Free(token)
				b.log.Tokens = append(b.log.Tokens, api.Token{Step: b.steps, User: who, Token: token})
			}
		}
	}
	for who := range is {
		for _, token := range is[who] {
			if !slices.Contains(was[who], token) {
				b.conns.Bind(token, who)
				b.log.Tokens = append(b.log.Tokens, api.Token{Step: b.steps, User: who, Token: token, On: true})
			}
		}
	}
	b.conns.Answer(conn, r)
}

// find is the first request of a user in a state; -1: none.
func (b *told) find(user, state int) int {
	return slices.IndexFunc(b.requests, func(r asked) bool { return r.user == user && r.state == state })
}

func (b *told) work(u, ticks int) {
	if b.wishes[u] != nil {
		return
	}
	if b.find(u, goesOn) < 0 {
		k := b.find(u, waits)
		if k < 0 {
			return
		}
		b.requests[k].state = goesOn
		b.eps[u].Begin(b.requests[k].text, b.c.Fuel)
	}
	for ticks > 0 && b.find(u, goesOn) >= 0 && b.wishes[u] == nil {
		stop, e := b.eps[u].Run(min(ticks, 37))
		if e != api.OK {
			panic(e)
		}
		ticks -= stop.Used
		if stop.Kind == api.StopTrap {
			b.trap(u, stop.Trap)
		} else if !b.eps[u].Busy() {
			b.ends(u, 500, "")
		}
	}
}

// ends answers the request that goes on.
func (b *told) ends(u, status int, text string) {
	b.eps[u].End()
	k := b.find(u, goesOn)
	b.requests[k].state = answered
	b.conns.Answer(b.requests[k].conn, api.Response{Status: status, Body: text})
}

// gives answers a trap by a number.
func (b *told) gives(u, n int) {
	if b.eps[u].Give(n) != api.OK {
		b.ends(u, 500, "")
	}
}

// lays answers a trap by a text that is laid.
func (b *told) lays(u, at, most int, text string) {
	if most < 0 {
		most = 0
	}
	if len(text) > most {
		text = text[:most]
	}
	if b.eps[u].Lay(at, text) {
		b.gives(u, len(text))
	} else {
		b.ends(u, 500, "")
	}
}

func (b *told) used(u int, cats []int, what ...any) {
	if len(cats) > 0 {
		b.log.Uses = append(b.log.Uses, api.Use{Step: b.steps, Who: u, Cats: cats, What: strings.TrimSuffix(fmt.Sprintln(what...), "\n")})
	}
}

func (b *told) trap(u, t int) {
	takes := []int{99, 3, 2, 5, 5, 3, 4, 2, 4, 2, 0, 2, 0}
	if t > 12 {
		b.ends(u, 500, "")
		return
	}
	n, e := b.eps[u].Args(takes[t])
	if e != api.OK {
		b.ends(u, 500, "")
		return
	}
	// Where the texts of each trap stand.
	var texts []string
	for _, k := range [][]int{1: {1}, 3: {0, 2}, 4: {0, 2}, 5: {0}, 6: {0}, 7: {0}, 8: {1}, 12: nil}[t] {
		text, ok := b.eps[u].Text(n[k], n[k+1])
		if !ok {
			b.ends(u, 500, "")
			return
		}
		texts = append(texts, text)
	}
	at := func(open int) []int {
		if open != 0 {
			return nil
		}
		return []int{2*u + 1}
	}
	x, _ := b.people.Subject(u)
	switch t {
	case 1:
		if n[0] < 200 || n[0] > 599 {
			b.ends(u, 500, "")
		} else {
			b.ends(u, n[0], texts[0])
		}
	case 2:
		b.lays(u, n[0], n[1], b.eps[u].Input())
	case 3, 4:
		b.wishes[u] = &wish{op: api.Op{Kind: t - 2, Key: texts[0], Cells: texts[1:], S: at(n[4]), I: []int{2*u + 2}}}
	case 5:
		b.wishes[u] = &wish{op: api.Op{Kind: t - 2, Key: texts[0], S: at(n[2])}}
	case 6:
		b.wishes[u] = &wish{op: api.Op{Kind: t - 2, Key: texts[0]}, at: n[2], most: n[3]}
	case 7:
		b.wishes[u] = &wish{op: api.Op{Kind: t - 2, Key: texts[0], Most: 256}}
	case 8:
		uses, e := b.mail.Send(x, n[0], texts[0], n[3] != 0)
		b.used(u, uses, "send", n[0], texts[0])
		b.gives(u, int(e))
	case 9:
		if m, ok := b.mail.Take(u); ok {
			b.lays(u, n[0], n[1], m.Text)
		} else {
			b.gives(u, -1)
		}
	case 10:
		cat, e := b.people.Make(u, b.steps)
		if e != api.OK {
			cat = -1
		}
		b.gives(u, cat)
	case 11:
		b.give(x, n[0], n[1])
	default:
		b.gives(u, u)
	}
}

// give is SysGive.
func (b *told) give(x api.Subject, to, cat int) {
	own := slices.Contains(x.Own, 2*x.Who+1)
	switch {
	case to < 0 || to >= len(b.c.Users):
		b.gives(x.Who, 1)
	case to != x.Who && !own:
		b.gives(x.Who, 21)
	case !slices.Contains(x.Own, cat):
		b.gives(x.Who, 3)
	default:
		b.people.Give(x.Who, to, cat, b.steps)
		if to != x.Who {
			b.used(x.Who, []int{2*x.Who + 1}, "give", cat, to)
		}
		b.gives(x.Who, 0)
	}
}

func (b *told) table(u int) {
	v := b.wishes[u]
	if v == nil {
		return
	}
	b.wishes[u] = nil
	was := b.rows.Rows()
	x, _ := b.people.Subject(u)
	told := b.rows.Do(x, v.op)
	if told.Err == api.OK && v.op.Kind <= 3 {
		change := api.Change{Step: b.steps, Who: u, Kind: v.op.Kind, Key: v.op.Key, S: v.op.S, I: v.op.I}
		for _, r := range was {
			if r.Key == v.op.Key && slices.Equal(r.Label.S, v.op.S) {
				change.I = r.Label.I
			}
		}
		b.log.Changes = append(b.log.Changes, change)
		what := []any{[]string{1: "insert", 2: "update", 3: "delete"}[v.op.Kind], v.op.Key}
		if v.op.Kind < 3 {
			what = append(what, v.op.Cells[0])
		}
		b.used(u, told.Uses, what...)
	}
	switch {
	case v.op.Kind <= 3:
		b.gives(u, int(told.Err))
	case v.op.Kind == 4 && len(told.Rows) == 0:
		b.gives(u, -1)
	case v.op.Kind == 4:
		b.lays(u, v.at, v.most, strings.Join(told.Rows[0].Cells[:min(1, len(told.Rows[0].Cells))], ""))
	default:
		n := 0
		for _, r := range told.Rows {
			if strings.HasPrefix(r.Key, v.op.Key) {
				n++
			}
		}
		b.gives(u, n)
	}
}

func (b *told) busy(user int) bool {
	return b.find(user, waits) >= 0 || b.find(user, goesOn) >= 0
}

// pair is a web, and what is told of it.
type pair struct {
	t *testing.T
	w *okws.Web
	b *told
	// tokens are sessions, by whose they are.
	tokens map[int]string
	// steps are those that were done, outs what went out.
	steps []api.Step
	outs  []api.Out
}

func made(t *testing.T, c api.Config) *pair {
	t.Helper()
	w, e := okws.New(c)
	if w == nil || e != api.OK || okws.Check(c) != api.OK {
		t.Fatalf("New: %v; Check: %v", e, okws.Check(c))
	}
	return &pair{t: t, w: w, b: tell(c), tokens: map[int]string{}}
}

func (x *pair) copy() *pair {
	c := &pair{t: x.t, w: x.w.Copy(), b: x.b.copy(), tokens: map[int]string{}, steps: slices.Clone(x.steps), outs: slices.Clone(x.outs)}
	for who, token := range x.tokens {
		c.tokens[who] = token
	}
	return c
}

// shown is what tells of something, cut if it is long.
func shown(v any) string {
	s := fmt.Sprintf("%+v", v)
	if len(s) > 600 {
		s = s[:600] + ".."
	}
	return s
}

// tries does a step that may be refused.
func (x *pair) tries(s api.Step) ([]api.Out, api.Errno) {
	x.t.Helper()
	got, e := x.w.Step(s)
	want, wantE := x.b.step(s)
	if e != wantE || !slices.Equal(got, want) {
		x.t.Fatalf("Step %d, %s: %s, %v; want %s, %v", x.b.steps, shown(s), shown(got), e, shown(want), wantE)
	}
	if e == api.OK {
		x.steps, x.outs = append(x.steps, s), append(x.outs, got...)
	}
	return got, e
}

// step does a step, and is what goes out.
func (x *pair) step(s api.Step) string {
	x.t.Helper()
	out, e := x.tries(s)
	if e != api.OK {
		x.t.Fatalf("Step %s: %v", shown(s), e)
	}
	if len(out) > 1 {
		x.t.Fatal(out)
	}
	if len(out) == 0 {
		return ""
	}
	return out[0].Bytes
}

func (x *pair) arrive(conn int, s string) {
	x.t.Helper()
	x.step(api.Step{Kind: api.StepArrive, At: conn, Bytes: s})
}

func (x *pair) shut(conn int) {
	x.t.Helper()
	x.step(api.Step{Kind: api.StepClose, At: conn})
}

func (x *pair) conn(conn int) string {
	x.t.Helper()
	return x.step(api.Step{Kind: api.StepConn, At: conn})
}

func (x *pair) idd(conn int) {
	x.t.Helper()
	x.step(api.Step{Kind: api.StepIdd, At: conn})
}

func (x *pair) worker(user, ticks int) {
	x.t.Helper()
	x.step(api.Step{Kind: api.StepWorker, At: user, Ticks: ticks})
}

func (x *pair) table(user int) {
	x.t.Helper()
	x.step(api.Step{Kind: api.StepTable, At: user})
}

// alikeLogs tells whether two logs are the same; nil is as empty.
func alikeLogs(a, b api.Log) bool {
	return fmt.Sprintf("%+v", a) == fmt.Sprintf("%+v", b)
}

// noNumbers are numbers of no connection and no user.
func noNumbers() []int {
	return []int{least, -1 << 32, -2, -1, 64, 65, 128, 1 << 16, 1 << 32, 1<<32 + 1, greatest}
}

// sees holds all that is told without a change against what it should be.
func (x *pair) sees() {
	x.t.Helper()
	if got := x.w.Steps(); got != x.b.steps {
		x.t.Fatalf("Steps: %d; want %d", got, x.b.steps)
	}
	if got, want := fmt.Sprintf("%+v", x.w.Rows()), fmt.Sprintf("%+v", x.b.rows.Rows()); got != want {
		x.t.Fatalf("Rows: %s; want %s", got, want)
	}
	x.seesLog()
	for k := range 64 {
		x.seesNumber(k)
	}
	for _, k := range noNumbers() {
		x.seesNumber(k)
	}
}

func (x *pair) seesLog() {
	x.t.Helper()
	want := x.b.log
	want.Grants = x.b.people.Grants()
	if got := x.w.Log(); !alikeLogs(got, want) {
		x.t.Fatalf("Log: %+v; want %+v", got, want)
	}
}

func (x *pair) seesNumber(k int) {
	x.t.Helper()
	if got, want := x.w.User(k), x.b.conns.User(k); got != want {
		x.t.Fatalf("User(%d): %d; want %d", k, got, want)
	}
	if got, want := x.w.Busy(k), x.b.busy(k); got != want {
		x.t.Fatalf("Busy(%d): %v; want %v", k, got, want)
	}
}

// stands holds also what comes next against it, by a copy that goes on.
func (x *pair) stands() {
	x.t.Helper()
	x.sees()
	c := x.copy()
	for range 3 {
		for conn := range 64 {
			c.conn(conn)
			c.idd(conn)
		}
		for user := range c.b.c.Users {
			c.worker(user, 2000)
			c.table(user)
		}
	}
	c.sees()
	x.sees()
}
