package meter_test

import (
	"cloister/api"
	"cloister/code"
	"cloister/internal/trial"
	"cloister/meter"
	"cloister/reply"
	"slices"
	"strings"
	"testing"
)

// waiting is a whole request that had arrived ahead of a step: which one of its
// connection it was, the first one being 0, and how many of these that were not
// answered by then stood ahead of it.
type waiting struct {
	conn, number, ahead, from int
}

// race is a web in which requests arrive, and whose units are picked.
type race struct {
	*trial.Script
	t     *testing.T
	d     drawn
	conns int
	came  [64]int    // how many whole requests arrived at each connection
	rest  [64]string // what is lacking of one of which a part arrived
	all   []waiting
}

// begun is a race in which each user has a session, begun at a connection behind
// the first ones.
func begun(t *testing.T, d drawn, c api.Config, conns int) *race {
	t.Helper()
	r := &race{Script: trial.New(c), t: t, d: d, conns: conns}
	for who := range c.Users {
		if r.Enter(conns+who, who); r.Tokens[who] == "" {
			t.Fatal("no session:", c)
		}
	}
	return r
}

// send lets bytes arrive that are, with what arrived ahead of them, a request.
func (r *race) send(conn int, text string) {
	r.Step(api.Step{Kind: api.StepArrive, At: conn, Bytes: text})
	r.came[conn]++
}

// arrive lets a request arrive, or a part of it, or what was lacking of one.
func (r *race) arrive(conn int) {
	text := r.rest[conn]
	if text == "" {
		text = r.request(conn)
	}
	if n := r.d.Intn(len(text)); n > 0 && r.d.Intn(4) == 0 {
		r.Step(api.Step{Kind: api.StepArrive, At: conn, Bytes: text[:n]})
		r.rest[conn] = text[n:]
		return
	}
	r.send(conn, text)
	r.rest[conn] = ""
}

// request is one for a connection: most are its user's, for the event process.
func (r *race) request(conn int) string {
	who := conn % len(r.Config.Users)
	switch r.d.Intn(30) {
	case 0:
		return trial.Login(who)
	case 1:
		return trial.Post("/login", "", "user=a&word=no")
	case 2:
		return trial.Post("/logout", r.Tokens[who], "")
	case 3:
		return trial.Post("/", "", "w...")
	case 4:
		return "GET / HTTP/1.1\r\nContent-Length: 0\r\nTransfer-Encoding: chunked\r\n\r\n"
	case 5:
		return trial.Post("/", r.Tokens[r.d.Intn(len(r.Tokens))], "w...")
	case 6:
		return strings.Replace(trial.Post("/", r.Tokens[who], r.commands()), "\r\n", "\r\nConnection: close\r\n", 1)
	}
	return trial.Post("/", r.Tokens[who], r.commands())
}

// commands are some of a worker.
func (r *race) commands() string {
	all := []string{"ik10", "uk20", "dk.0", "gk..", "ck..", "s1a0", "r...", "m...", "w...", "l...", "h...", trial.Give(0, 2)}
	out := ""
	for range r.d.Intn(4) {
		out += all[r.d.Intn(len(all))]
	}
	return out + "."
}

// answered is how many responses went out at a connection ahead of a step, and
// whether it was closed.
func (r *race) answered(conn, until int) (int, bool) {
	ahead := slices.DeleteFunc(slices.Clone(r.Outs), func(o api.Out) bool { return o.Step >= until })
	n, closed := meter.Count(ahead, conn)
	open := false
	for _, s := range r.Steps[:min(until, len(r.Steps))] {
		if s.At == conn {
			closed = closed || open && s.Kind == api.StepClose
			open = open || s.Kind == api.StepArrive
		}
	}
	return n, closed
}

// notes notes the requests of a connection that wait to be answered now.
func (r *race) notes(conn int) {
	n, closed := r.answered(conn, len(r.Steps))
	for number := n; number < r.came[conn] && !closed; number++ {
		r.all = append(r.all, waiting{conn, number, number - n, len(r.Steps)})
	}
}

// rests tells whether all that arrived is answered, or its connection closed.
func (r *race) rests() bool {
	for conn := range r.conns {
		if n, closed := r.answered(conn, len(r.Steps)); n < r.came[conn] && !closed {
			return false
		}
	}
	return true
}

// anyhow lets requests arrive and picks units without regard for their turns.
func (r *race) anyhow(steps int) {
	for range steps {
		conn := r.d.Intn(r.conns)
		switch r.d.Intn(3) {
		case 0:
			r.arrive(conn)
		case 1:
			units, _ := meter.Units(r.Config, r.conns, 1+r.d.Intn(20))
			r.Step(units[r.d.Intn(len(units))])
		default:
			r.Pick(api.StepConn, conn)
		}
	}
}

// turn picks each unit once, in an order that is drawn, and lets requests arrive
// now and then, which it notes.
func (r *race) turn(ticks int) {
	steps, _ := meter.Units(r.Config, r.conns, ticks)
	for range r.d.Intn(3) {
		steps = append(steps, []api.Step{conn(r.conns), idd(63), worker(0, ticks), table(0)}[r.d.Intn(4)])
	}
	r.d.Shuffle(len(steps), func(i, k int) { steps[i], steps[k] = steps[k], steps[i] })
	for _, s := range steps {
		r.Step(s)
		if conn := r.d.Intn(r.conns); r.d.Intn(150) == 0 {
			r.arrive(conn)
			r.notes(conn)
		} else if r.d.Intn(2000) == 0 {
			r.Step(api.Step{Kind: api.StepClose, At: conn})
		}
	}
}

// holds holds the steps from one on against the chapter: how many of what was
// noted was to be answered in as many steps as they are, or was.
func (r *race) holds(from int) int {
	r.t.Helper()
	steps := r.Steps[from:]
	within := least(r.Config, r.conns, steps)
	wantFair(r.t, r.Config, r.conns, within, steps, true, api.OK)
	if within <= len(steps) {
		wantFair(r.t, r.Config, r.conns, within-1, steps, false, api.OK)
	}
	sure := 0
	for _, x := range r.all {
		bound, e := meter.Bound(r.Config, within, x.ahead)
		if e != api.OK {
			r.t.Fatal(e)
		}
		n, closed := r.answered(x.conn, x.from+bound)
		if done := n > x.number || closed; done {
			sure++
		} else if x.from+bound <= len(r.Steps) {
			r.t.Fatalf("%+v is not answered within %d steps of %d, each unit being picked within %d", x, bound, len(r.Steps), within)
		}
	}
	return sure
}

// statuses counts what was answered at the connections.
func (r *race) statuses(into map[int]int) {
	for conn := range r.conns {
		for _, o := range r.Outs {
			if answer, _, e := reply.Parse(o.Bytes); e == api.OK && o.Conn == conn {
				into[answer.Status]++
			}
		}
	}
}

// texts are code that halts, faults, never ends, asks the table server for ever
// by some instructions and by many, replies, does system calls, and one that there is not.
var texts = []string{
	"halt", "pop", "jump 0", "push 0\npush 1\ntrap 7\npop\njump 0", "push 200\npush 0\npush 2\ntrap 1",
	"push 0\npush 1\npush 0\npush 1\npush 0\ntrap 3\npush 0\npush 1\npush 0\npush 1\npush 0\ntrap 4\npush 0\npush 1\npush 0\ntrap 5\npop\npop\npop\njump 0", "trap 12\ntrap 12\ntrap 12\npop\npop\npop\njump 0", "trap 99",
}

// coded is a configuration of a code, or of the worker that does what requests say.
func (d drawn) coded(users int) api.Config {
	c := trial.Config(users, d.Intn(4))
	c.Conns, c.Asks, c.Fuel = 1+d.Intn(4), 1+d.Intn(3), 1+d.Intn(300)
	if k := d.Intn(2 * len(texts)); k < len(texts) {
		c.Code, _, _ = code.Parse(texts[k])
		c.Image, c.Fuel = "hi", 1+d.Intn(40)
	}
	return c
}

// Me3, P5: whole requests that arrived ahead of fair steps, or in between, are
// answered within the bound, or their connections close.
func TestBounded(t *testing.T) {
	sure, unsure, counts := 0, 0, map[int]int{}
	for seed := range int64(80) {
		d := draws(seed)
		r := begun(t, d, d.coded(1+d.Intn(3)), 1+d.Intn(5))
		r.anyhow(d.Intn(60))
		from := len(r.Steps)
		for conn := range r.conns {
			r.notes(conn)
		}
		for ticks := 1 + d.Intn(2); len(r.Steps) < 12000 && !(r.rests() && d.Intn(20) == 0); {
			r.turn(ticks)
		}
		n := r.holds(from)
		sure, unsure = sure+n, unsure+len(r.all)-n
		r.statuses(counts)
	}
	if sure < 500 || unsure > sure/10 || counts[200] < 100 || counts[500] < 100 || counts[503] < 20 || counts[400] < 5 || counts[401] < 20 || counts[403] < 5 {
		t.Error(sure, unsure, counts)
	}
}

// slow is a web of one user at whose connections requests of a code wait that
// spends its fuel, and its units in such an order that each one waits for the
// next one as long as it may: the step by which the last one is answered.
func slow(t *testing.T, text string, asks, ahead, fuel int) (r *race, last, from int) {
	c := trial.Config(1, 0)
	c.Code, _, _ = code.Parse(text)
	c.Conns, c.Asks, c.Fuel = asks, asks, fuel
	r = begun(t, draws(1), c, asks)
	for range ahead + 1 {
		for conn := range asks {
			r.send(conn, trial.Post("/", r.Tokens[0], ""))
		}
	}
	from = len(r.Steps)
	for conn := range asks {
		r.notes(conn)
	}
	units, _ := meter.Units(c, asks, 1)
	slices.Reverse(units)
	for !r.rests() {
		for _, s := range units {
			r.Step(s)
		}
	}
	for _, o := range r.Outs {
		last = max(last, o.Step)
	}
	return r, last, from
}

// Me3: how long the last one takes hangs on the fuel, on how many wait at other
// connections, and on how many are ahead of it; it is within the bound.
func TestSlow(t *testing.T) {
	for _, text := range []string{"jump 0", texts[3], texts[5]} {
		for _, asks := range []int{1, 2, 5} {
			for _, ahead := range []int{0, 1, 4} {
				for _, fuel := range []int{1, 2, 30, 100} {
					r, last, from := slow(t, text, asks, ahead, fuel)
					if n := r.holds(from); n != asks*(ahead+1) {
						t.Error(n, asks, ahead)
					}
					units := 2*asks + 2
					if took := last + 1 - from; took < units*asks*(ahead+1)*fuel {
						t.Error("so few steps:", took, text, asks, ahead, fuel)
					}
					if l := r.Outs[len(r.Outs)-1]; !strings.HasPrefix(l.Bytes, "HTTP/1.1 500 ") {
						t.Error(l)
					}
				}
			}
		}
	}
}

// P5: a unit that is not picked is what an answer may wait for, for ever; so
// steps are not fair without it.
func TestNotPicked(t *testing.T) {
	c := trial.Config(1, 0)
	c.Asks, c.Fuel = 1, 200
	for k := range 4 {
		r := begun(t, draws(1), c, 1)
		if k == 1 {
			r.send(0, trial.Login(0))
		} else {
			r.send(0, trial.Post("/", r.Tokens[0], "ik10ck..."))
		}
		from := len(r.Steps)
		units, _ := meter.Units(c, 1, 1)
		less := slices.Delete(slices.Clone(units), k, k+1)
		for range 2000 {
			for _, s := range less {
				r.Step(s)
			}
		}
		bound, e := meter.Bound(c, 3, 0)
		if n, _ := meter.Count(r.Outs, 0); n != 0 || e != api.OK || len(r.Steps)-from < bound {
			t.Error(k, n, bound)
		}
		wantFair(t, c, 1, 3, r.Steps[from:], false, api.OK)
		wantFair(t, c, 1, 6000, r.Steps[from:], false, api.OK)
		for range 500 {
			for _, s := range units {
				r.Step(s)
			}
		}
		if n, closed := meter.Count(r.Outs, 0); n != 1 || closed {
			t.Error(k, n, closed)
		}
	}
}

// P4: a user that has no more open connections and requests than it may is not
// told 503, whatever the others do; those that have more are.
func TestWithinItsOwn(t *testing.T) {
	mine, counts := map[int]int{}, map[int]int{}
	for seed := range int64(30) {
		d := draws(seed)
		c := trial.Config(3, d.Intn(8))
		c.Conns, c.Asks, c.Fuel = 1+d.Intn(3), 1+d.Intn(3), 300
		r := begun(t, d, c, 24)
		token := r.Tokens[0]
		r.Tokens[0] = "unknown" // to the others
		for range 3000 {
			units, _ := meter.Units(c, 24, 1+d.Intn(200))
			r.Step(units[d.Intn(len(units))])
			if conn := d.Intn(24); conn%3 != 0 {
				r.floods(conn)
			} else if conn/3 < c.Conns && r.unanswered(0) < c.Asks {
				r.send(conn, trial.Post("/", token, r.commands()))
			}
		}
		for _, o := range r.Outs {
			if answer, _, e := reply.Parse(o.Bytes); e != api.OK {
				t.Fatal(o)
			} else if o.Conn%3 == 0 && o.Conn < 24 {
				mine[answer.Status]++
			} else {
				counts[answer.Status]++
			}
		}
	}
	if mine[503] > 0 || len(mine) != 2 || mine[200] < 200 || mine[500] < 50 || counts[503] < 300 {
		t.Error(mine, counts)
	}
}

// floods lets some requests of a user arrive at one of its connections at one
// time, of which some close it.
func (r *race) floods(conn int) {
	for range r.d.Intn(3) {
		r.arrive(conn)
	}
}

// unanswered is how many requests of a user were sent and not answered.
func (r *race) unanswered(who int) int {
	out := 0
	for conn := who; conn < r.conns; conn += len(r.Config.Users) {
		n, _ := r.answered(conn, len(r.Steps))
		out += r.came[conn] - n
	}
	return out
}
