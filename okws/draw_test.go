package okws_test

import (
	"cloister/api"
	"fmt"
	"math/rand"
	"strings"
	"testing"
)

// draw is what is drawn by a seed.
type draw struct {
	*rand.Rand
	// next are the texts that have begun to arrive, by their connections.
	next map[int]string
	// conns are the connections that are drawn, made how many there were.
	conns []int
	made  int
}

func draws(seed int64) *draw {
	return &draw{Rand: rand.New(rand.NewSource(seed)), next: map[int]string{}, conns: []int{0, 1, 2, 3, 4, 5}, made: 6}
}

// one is one of some.
func one[T any](d *draw, of ...T) T { return of[d.Intn(len(of))] }

// config is a configuration of a few users.
func (d *draw) config(t *testing.T) api.Config {
	n := 1 + d.Intn(4)
	c := config(t, n, d.Intn(16))
	c.Conns, c.Asks = one(d, 1, 3, 6, 64), one(d, 1, 2, 4, 64)
	c.Quota = one(d, 0, 100, 100, 1000, 1000, 1<<31-1)
	c.Fuel = one(d, 300, 1000, 3000, 10000, 10000)
	c.Draws = nil
	for range d.Intn(5) {
		c.Draws = append(c.Draws, d.Intn(100)-50)
	}
	c.Image = strings.Repeat("i", one(d, 0, 10, 4096))
	c.Rows = d.rows(n)
	return c
}

// rows are some, no two of the same key and secrecy.
func (d *draw) rows(users int) []api.Row {
	var out []api.Row
	for _, key := range []string{"k", "ka", "b", "c"} {
		for _, s := range [][]int{nil, {1}, {2}, {3}, {1, 3}, {5}, {1000}} {
			if d.Intn(4) > 0 {
				continue
			}
			r := api.Row{Key: key, Label: api.Label{S: s, I: one(d, nil, nil, []int{2}, []int{4}, []int{2, 4})}, Who: -1}
			for range d.Intn(3) {
				r.Cells = append(r.Cells, fmt.Sprint("cell", d.Intn(100)))
			}
			out = append(out, r)
		}
	}
	d.Shuffle(len(out), func(i, j int) { out[i], out[j] = out[j], out[i] })
	return out
}

// token is that of a session, mostly of whose the connection is.
func (d *draw) token(x *pair, conn int) string {
	who := x.w.User(conn)
	if who < 0 || d.Intn(20) == 0 {
		who = d.Intn(len(x.b.c.Users))
	}
	live := x.b.people.Tokens(who)
	if all := x.b.log.Tokens; len(all) > 0 && d.Intn(30) == 0 {
		return all[d.Intn(len(all))].Token
	}
	if len(live) == 0 || d.Intn(30) == 0 {
		return one(d, "none", "", "0")
	}
	return one(d, live...)
}

func (d *draw) key() string {
	return one(d, "k", "k", "ka", "ka", "b", "c", "c", "", strings.Repeat("k", 64), strings.Repeat("k", 65))
}

func (d *draw) cell() string {
	return one(d, "", "x", "cell", fmt.Sprint(d.Intn(1000)), "a longer cell of some more bytes", strings.Repeat("c", 257))
}

func (d *draw) open() int { return one(d, 0, 0, 1, 1, -1, 7) }

// place is a number of a place, of a size, or of neither.
func (d *draw) place() int {
	return one(d, 0, 1, 10, 255, 256, 3000, 4095, 4096, 4097, -1, -300, 65535, 1<<62, least)
}

// user is the number of one, mostly.
func (d *draw) user(x *pair) int {
	if d.Intn(8) == 0 {
		return one(d, -1, len(x.b.c.Users), 16, 1<<62, least)
	}
	return d.Intn(len(x.b.c.Users))
}

func (d *draw) category(x *pair) int {
	return one(d, 2*d.Intn(5)+1, 2*d.Intn(5)+2, 1000*(1+d.Intn(4))+d.Intn(3), 0, -1, 65535, 1<<62)
}

// command is something that an event process does.
func (d *draw) command(x *pair) command {
	switch d.Intn(30) {
	case 0, 1, 2, 26, 27:
		return insert(d.key(), d.cell(), d.open())
	case 3, 4, 5, 28, 29:
		return update(d.key(), d.cell(), d.open())
	case 6, 7:
		return remove(d.key(), d.open())
	case 8, 9:
		return getMost(d.key(), one(d, 0, 2, 90, 90, -1))
	case 10, 11:
		return count(d.key())
	case 12, 13, 14:
		return send(d.user(x), one(d, "", "a", "hello there", strings.Repeat("m", 100)), d.open())
	case 15, 16:
		return laid(api.SysRecv, one(d, 0, 3, 90, 90, -1))
	case 17:
		return makes()
	case 18, 19, 20:
		return gives(d.user(x), d.category(x))
	case 21:
		return who()
	case 22:
		return func(b *body) { // what it makes, it gives away
			b.num(d.user(x))
			b.trap(api.SysMake)
			b.trap(api.SysGive)
			b.keep()
		}
	case 23:
		return laid(api.SysInput, one(d, 0, 5, 90, -1, 2000))
	case 24:
		return func(b *body) { // whatever numbers
			t := one(d, traps...)
			for range []int{0, 3, 2, 5, 5, 3, 4, 2, 4, 2, 0, 2, 0, 0}[min(t, 13)] - d.Intn(12)/11 {
				b.num(d.place())
			}
			b.trap(t)
			b.keep()
		}
	}
	return does(one(d, byte('L'), 'F', 'H', 'x', 'd', 0))
}

// text is a request.
func (d *draw) text(x *pair, conn int) string {
	field := sid(d.token(x, conn))
	n := d.Intn(40)
	if x.w.User(conn) < 0 {
		n = d.Intn(12)
	}
	switch n {
	case 0, 1, 2:
		who := d.Intn(len(x.b.c.Users))
		return signIn(who, word(who))
	case 3:
		return signIn(d.Intn(6), one(d, "wa", "wb", "", "x"))
	case 4:
		return posts("/logout", "", field)
	case 5:
		return gets(one(d, "/", "/a%20b?c=d%26&e", "/?x"), field)
	case 6:
		return one(d, "x\r\n\r\n", "GET / HTTP/1.1\r\n\r\n", "GET / HTTP/2.0\r\nHost: a\r\n\r\n", posts("/login", "user=a"), gets("/", field, ends))
	}
	return posts("/", d.body(x, 1+d.Intn(6)), field)
}

// body is a request's, of so many commands.
func (d *draw) body(x *pair, n int) string {
	var commands []command
	for range n {
		commands = append(commands, d.command(x))
	}
	text, _ := whole(commands...)
	return text
}

// conn is the number of a connection: mostly one of a few, instead of which
// another one comes as soon as it is closed.
func (d *draw) conn(x *pair) int {
	if d.Intn(40) == 0 {
		return d.Intn(64)
	}
	k := d.Intn(len(d.conns))
	if conn := d.conns[k]; d.made < 60 && !x.b.conns.Open(conn) && x.b.conns.Copy().Arrive(conn, "") != api.OK {
		d.conns[k] = d.made
		d.made++
	}
	return d.conns[k]
}

// step is one that may be, mostly.
func (d *draw) step(x *pair) api.Step {
	conn, user := d.conn(x), d.Intn(len(x.b.c.Users))
	ticks := one(d, 1, 10, 100, 1000, 1<<20)
	if d.Intn(2) == 0 {
		return d.useful(x, conn, user, ticks)
	}
	switch n := d.Intn(100); {
	case n < 25:
		return d.arrives(x, conn)
	case n < 50:
		return api.Step{Kind: api.StepConn, At: conn}
	case n < 60:
		return api.Step{Kind: api.StepIdd, At: conn}
	case n < 75:
		return api.Step{Kind: api.StepWorker, At: user, Ticks: ticks}
	case n < 90:
		return api.Step{Kind: api.StepTable, At: user}
	case n < 95:
		return api.Step{Kind: d.Intn(9) - 1, At: one(d, -1, 3, 64), Ticks: d.Intn(3) - 1}
	case n < 97:
		return api.Step{Kind: api.StepClose, At: conn}
	}
	return api.Step{Kind: api.StepConn, At: conn}
}

// useful is a step of a unit that has something to do, if one of these has.
func (d *draw) useful(x *pair, conn, user, ticks int) api.Step {
	_, door := x.b.doors[conn]
	switch {
	case door:
		return api.Step{Kind: api.StepIdd, At: conn}
	case x.b.wishes[user] != nil:
		return api.Step{Kind: api.StepTable, At: user}
	case x.b.busy(user):
		return api.Step{Kind: api.StepWorker, At: user, Ticks: ticks}
	case d.Intn(4) == 0:
		return d.arrives(x, conn)
	}
	return api.Step{Kind: api.StepConn, At: conn}
}

// arrives lets bytes of a request arrive.
func (d *draw) arrives(x *pair, conn int) api.Step {
	if d.next[conn] == "" {
		d.next[conn] = d.text(x, conn)
	}
	part := d.next[conn]
	if d.Intn(5) == 0 {
		part = part[:d.Intn(len(part)+1)]
	}
	d.next[conn] = d.next[conn][len(part):]
	return api.Step{Kind: api.StepArrive, At: conn, Bytes: part}
}

// web is one of a configuration that is drawn; mostly there are sessions.
func (d *draw) web(t *testing.T) *pair {
	c := d.config(t)
	if d.Intn(5) == 0 {
		return made(t, c)
	}
	x := all(t, c)
	for _, conn := range d.conns {
		who := d.Intn(len(c.Users))
		x.arrive(conn, gets("/x", sid(x.tokens[who])))
		x.conn(conn)
		x.finish(who)
		x.conn(conn)
	}
	return x
}

// Ok1, Ok2: steps of all kinds, in whatever order.
func TestDrawn(t *testing.T) {
	seen := map[string]int{}
	for seed := range int64(150) {
		d := draws(seed)
		x := d.web(t)
		for k := range 500 {
			out, _ := x.tries(d.step(x))
			for _, o := range out {
				seen[strings.Fields(o.Bytes)[1]]++
			}
			if k%50 == 0 {
				x.sees()
			}
			if k%211 == 210 {
				x = x.copy()
			}
		}
		x.stands()
		l := x.w.Log()
		seen["tokens"] += len(l.Tokens)
		for _, u := range l.Uses {
			seen[strings.Fields(u.What)[0]]++
		}
		for _, c := range l.Changes {
			seen[fmt.Sprint("change ", c.Kind)]++
		}
		for _, g := range l.Grants {
			if g.Step >= 0 {
				seen[fmt.Sprint("grant ", g.From >= 0)]++
			}
		}
	}
	for _, kind := range []string{"200", "400", "401", "403", "500", "503", "505", "tokens", "insert", "update", "delete", "send", "give", "change 1", "change 2", "change 3", "grant true", "grant false"} {
		if seen[kind] < 10 {
			t.Error("hardly ever drawn:", kind, seen)
		}
	}
}
