package okws_test

import (
	"cloister/api"
	"cloister/okws"
	"fmt"
	"slices"
	"strings"
	"testing"
	"unsafe"
)

// R1: a web that New and Copy did not give answers zero values (-1 of User),
// ErrArg where it answers an error, at all arguments.
func TestWebOfNobody(t *testing.T) {
	x := inTheMiddle(t)
	laid := *x.w
	for k, w := range []*okws.Web{nil, {}, &laid} {
		steps := wrongSteps()
		for kind := api.StepArrive; kind <= api.StepTable; kind++ {
			for at := range 3 {
				steps = append(steps, api.Step{Kind: kind, At: at, Bytes: gets("/", sid(x.tokens[0])), Ticks: 100})
			}
		}
		for _, s := range steps {
			if out, e := w.Step(s); e != api.ErrArg || out != nil {
				t.Error(k, shown(s), out, e)
			}
		}
		for _, n := range append(noNumbers(), 0, 1, 2, 5, 63) {
			if w.User(n) != -1 || w.Busy(n) {
				t.Error(k, n)
			}
		}
		if w.Steps() != 0 || w.Rows() != nil || !alikeLogs(w.Log(), api.Log{}) || w.Copy() != nil {
			t.Error(k, w.Steps(), w.Rows(), w.Log(), w.Copy())
		}
	}
	x.stands()
}

// inTheMiddle is a web in which all may wait that can: bytes, answers, logins,
// logouts, requests, an operation of the table server, messages, what was noted.
func inTheMiddle(t *testing.T) *pair {
	t.Helper()
	c := config(t, 3, 0b011)
	c.Rows = []api.Row{{Key: "k", Cells: []string{"cell", "other"}, Label: api.Label{I: []int{2}}, Who: -1}, {Key: "hidden", Label: api.Label{S: []int{3, 1000}, I: []int{4}}, Who: -1}}
	x := all(t, c)
	x.wants(0, "0 0 0 1000 0", insert("l", "cell", 1), update("k", "new", 1), gives(1, 2), makes(), send(1, "message", 1))
	x.wants(1, "0 0 0", send(0, "other message", 1), remove("l", 1), insert("own", "cell", 0))
	text, _ := whole(insert("waits", "cell", 1), get("waits"), recv())
	for conn, user := range []int{5: 0, 6: 1, 7: 1, 8: 2, 9: 0} {
		if conn >= 5 {
			x.hands(conn, user, posts("/", text, sid(x.tokens[user])))
		}
	}
	x.worker(0, 1<<20)
	x.worker(1, 150)
	x.finish(2)
	x.arrive(10, signIn(2, word(2)))
	x.conn(10)
	x.arrive(11, posts("/logout", "", sid(x.tokens[2])))
	x.conn(11)
	x.arrive(12, gets("/x", sid(x.tokens[2]))[:20])
	x.arrive(13, signIn(0, "no"))
	x.conn(13)
	x.idd(13)
	x.arrive(14, "")
	x.shut(14)
	x.stands()
	return x
}

// spoil changes all that a list has, and the room behind it.
func spoil[T any](l []T, by T) {
	for i := range l[:cap(l)] {
		l[:cap(l)][i] = by
	}
}

// overlaps tells whether two texts share memory.
func overlaps(a, b string) bool {
	p, q := uintptr(unsafe.Pointer(unsafe.StringData(a))), uintptr(unsafe.Pointer(unsafe.StringData(b)))
	return p < q+uintptr(len(b)) && q < p+uintptr(len(a))
}

// lender lends texts whose bytes it changes afterwards.
type lender struct{ all [][]byte }

func (l *lender) lend(s string) string {
	bytes := []byte(s)
	l.all = append(l.all, bytes)
	return unsafe.String(unsafe.SliceData(bytes), len(bytes))
}

func (l *lender) spoil() {
	for _, bytes := range l.all {
		spoil(bytes, '!')
	}
}

// behind is a list with other things in the room behind its end.
func behind[T any](l []T, others ...T) []T {
	out := append(slices.Clone(l), others...)
	return out[:len(l)]
}

// lent is a configuration whose texts are lent, and behind whose lists stand
// wrong things.
func lent(l *lender, c api.Config) api.Config {
	out := c
	var users []api.User
	for _, u := range c.Users {
		users = append(users, api.User{Name: l.lend(u.Name), Salt: l.lend(u.Salt), Digest: l.lend(u.Digest), Open: u.Open})
	}
	out.Users = behind(users, users[0], api.User{})
	out.Draws = behind(c.Draws, 99, 98)
	out.Code = behind(c.Code, api.Instr{}, api.Instr{Op: 99})
	out.Image = l.lend(c.Image)
	var rows []api.Row
	for _, r := range c.Rows {
		var cells []string
		for _, cell := range r.Cells {
			cells = append(cells, l.lend(cell))
		}
		rows = append(rows, api.Row{Key: l.lend(r.Key), Cells: behind(cells, "wrong"), Label: api.Label{S: behind(r.Label.S, -1, 0), I: behind(r.Label.I, 0)}, Who: r.Who})
	}
	out.Rows = behind(rows, api.Row{}, api.Row{Key: "wrong", Who: 5})
	return out
}

// spoilConfig changes all that a configuration's lists have, and what these have.
func spoilConfig(c api.Config) {
	for _, r := range c.Rows {
		spoil(r.Cells, "spoilt")
		spoil(r.Label.S, 7)
		spoil(r.Label.I, 7)
	}
	spoil(c.Users, api.User{Name: "spoilt"})
	spoil(c.Draws, 55)
	spoil(c.Code, api.Instr{Op: api.Halt})
	spoil(c.Rows, api.Row{Key: "spoilt"})
}

// R3: a configuration is neither changed nor kept, nor what stands behind the
// ends of its lists.
func TestConfigNotKept(t *testing.T) {
	c := config(t, 3, 0b011)
	c.Draws = []int{5, 6, 7, 8}
	c.Image = "image"
	c.Rows = []api.Row{
		{Key: "k", Cells: []string{"cell", "other"}, Label: api.Label{I: []int{2, 4}}, Who: -1},
		{Key: "k", Cells: []string{"mine"}, Label: api.Label{S: []int{1}}, Who: -1}, {Key: "a", Who: -1},
	}
	var l lender
	given := lent(&l, c)
	if okws.Check(given) != api.OK || fmt.Sprint(given) != fmt.Sprint(c) {
		t.Fatal("Check changes what is handed in")
	}
	w, e := okws.New(given)
	if e != api.OK || fmt.Sprint(given) != fmt.Sprint(c) {
		t.Fatal("New changes what is handed in")
	}
	if _, _, e := okws.Run(given, nil); e != api.OK || fmt.Sprint(given) != fmt.Sprint(c) {
		t.Fatal("Run changes what is handed in")
	}
	if g := given; g.Users[:4][3] != given.Users[0] || g.Draws[:5][4] != 99 || g.Code[:len(c.Code)+1][len(c.Code)] != (api.Instr{}) || g.Rows[:4][3].Key != "" || g.Rows[0].Cells[:3][2] != "wrong" || g.Rows[0].Label.S[:1][0] != -1 || g.Rows[1].Label.I[:1][0] != 0 {
		t.Fatal("what stands behind the lists is changed")
	}
	other := w.Copy()
	spoilConfig(given)
	l.spoil()
	for _, w := range []*okws.Web{w, other} {
		x := &pair{t: t, w: w, b: tell(c), tokens: map[int]string{}}
		x.sees()
		for user := range 3 {
			x.tokens[user] = x.enter(60+user, user)
		}
		x.wants(0, "4:cell 3 0 0", get("k"), count(""), insert("own", "", 0), insert("own", "", 1))
		x.wants(1, "4:cell 3 0", get("k"), count(""), insert("other", "", 1))
		text, _ := whole(func(b *body) {
			b.num(200, 0, 5)
			b.trap(api.SysReply)
		})
		if r := x.serves(2, posts("/", text, sid(x.tokens[2]))); r.Body != "image" {
			t.Error(r)
		}
		x.stands()
	}
}

// R3: the texts of steps are not kept.
func TestStepsNotKept(t *testing.T) {
	x := all(t, config(t, 2, 0b01))
	var l lender
	body, b := whole(insert("key", "cell", 1), insert("key", "cell", 0), get("key"), send(1, "message", 1), send(0, "message", 0), update("key", "waits", 1))
	texts := []string{
		posts("/", body, sid(x.tokens[0])), signIn(1, word(1)), posts("/logout", "", sid(x.tokens[0])),
		gets("/whole", sid(x.tokens[1])), gets("/half", sid(x.tokens[1]))[:25], signIn(1, "wrong"),
	}
	for conn, s := range texts {
		x.b.step(api.Step{Kind: api.StepArrive, At: conn, Bytes: s})
		step := api.Step{Kind: api.StepArrive, At: conn, Bytes: l.lend(s)}
		if out, e := x.w.Step(step); out != nil || e != api.OK || step.Bytes != s {
			t.Fatal(out, e)
		}
	}
	c := x.copy()
	l.spoil()
	for _, one := range []*pair{x, c} {
		for conn := range texts {
			one.conn(conn)
			one.idd(conn)
		}
		one.finish(0)
		if got := b.reads(one.parsedReply(one.conn(0))); got != "0 0 4:cell 0 0 0" {
			t.Error(got)
		}
		if r := one.parsedReply(one.conn(1)); r.Body != "welcome" {
			t.Error(r)
		}
		one.arrive(4, gets("/half", sid(one.tokens[1]))[25:])
		one.wantUses("0 [1] insert key cell", "0 [1] send 1 message", "0 [1] update key waits")
		one.wants(1, "5:waits 7:message", get("key"), recv())
		one.stands()
	}
}

// spoilLog changes all that a log's lists have, and what these have.
func spoilLog(l api.Log) {
	for _, u := range l.Uses {
		spoil(u.Cats, 77)
	}
	for _, c := range l.Changes {
		spoil(c.S, 77)
		spoil(c.I, 77)
	}
	spoil(l.Grants, api.Grant{Step: 77})
	spoil(l.Uses, api.Use{Step: 77})
	spoil(l.Changes, api.Change{Step: 77})
	spoil(l.Tokens, api.Token{Step: 77})
}

// R3: what is answered is nobody else's: it is changed, with the room behind its
// lists, and changes nothing.
func TestAnswersAreNew(t *testing.T) {
	x := inTheMiddle(t)
	log, rows := fmt.Sprint(x.w.Log()), fmt.Sprint(x.w.Rows())
	c := x.copy()
	for _, one := range []*pair{x, c, c.copy()} {
		for range 2 {
			a, b := one.w.Log(), one.w.Log()
			spoilLog(a)
			if fmt.Sprint(b) != log {
				t.Fatal("two answers share memory")
			}
			for k, n := range b.Changes {
				spoil(n.S, 66)
				spoil(n.I, 66)
				if k > 0 && fmt.Sprint(b.Changes[k-1]) == fmt.Sprint(n) {
					t.Fatal("the same change twice")
				}
			}
			r, s := one.w.Rows(), one.w.Rows()
			for _, row := range r {
				spoil(row.Cells, "spoilt")
				spoil(row.Label.S, 77)
				spoil(row.Label.I, 77)
			}
			spoil(r, api.Row{Key: "spoilt"})
			if fmt.Sprint(s) != rows {
				t.Fatal("two answers share memory")
			}
		}
		one.sees()
		s := api.Step{Kind: api.StepConn, At: 13}
		out, e := one.w.Step(s)
		want, _ := one.b.step(s)
		if e != api.OK || len(out) != 1 || !slices.Equal(out, want) {
			t.Fatal(out, e)
		}
		spoil(out, api.Out{Conn: 77})
		one.stands()
	}
}

// R3: no two lists of one answer share memory.
func TestListsApart(t *testing.T) {
	x := inTheMiddle(t)
	for range 2 {
		l := x.w.Log()
		var sets []*[]int
		for k := range l.Uses {
			sets = append(sets, &l.Uses[k].Cats)
		}
		for k := range l.Changes {
			sets = append(sets, &l.Changes[k].S, &l.Changes[k].I)
		}
		rows := x.w.Rows()
		for k := range rows {
			sets = append(sets, &rows[k].Label.S, &rows[k].Label.I)
		}
		for k, set := range sets {
			spoil(*set, 1000+k)
		}
		for k, set := range sets {
			for _, n := range (*set)[:cap(*set)] {
				if n != 1000+k {
					t.Fatal("two lists share memory:", k, n-1000)
				}
			}
		}
		if len(sets) < 10 {
			t.Error(len(sets))
		}
	}
	x.stands()
}

// textsOf are all texts that a web tells.
func textsOf(w *okws.Web) []string {
	var out []string
	l := w.Log()
	for _, u := range l.Uses {
		out = append(out, u.What)
	}
	for _, c := range l.Changes {
		out = append(out, c.Key)
	}
	for _, n := range l.Tokens {
		out = append(out, n.Token)
	}
	for _, r := range w.Rows() {
		out = append(append(out, r.Key), r.Cells...)
	}
	for conn := range 16 {
		told, _ := w.Step(api.Step{Kind: api.StepConn, At: conn})
		for _, o := range told {
			out = append(out, o.Bytes)
		}
	}
	return out
}

// R3, of texts: what two calls answer shares no memory, nor do two copies' answers.
func TestTextsAreNew(t *testing.T) {
	x := inTheMiddle(t)
	x.idd(10)
	x.idd(11)
	x.finish(0)
	x.finish(1)
	var all [][]string
	for _, w := range []*okws.Web{x.w.Copy(), x.w.Copy().Copy(), x.w} {
		all = append(all, textsOf(w), textsOf(w))
	}
	n := 0
	for i, some := range all {
		for _, others := range all[:i] {
			for _, a := range some {
				for _, b := range others {
					// Go itself keeps the texts of one byte, for all.
					if len(a) > 1 && len(b) > 1 && overlaps(a, b) {
						t.Fatalf("%q and %q share memory", a, b)
					}
					n++
				}
			}
		}
	}
	if n < 1000 {
		t.Error(n)
	}
}

// R3: nil and the empty list are the same.
func TestNilAndEmpty(t *testing.T) {
	c := config(t, 2, 0b01)
	c.Draws, c.Rows = nil, []api.Row{{Key: "k", Who: -1}}
	other := c
	other.Draws, other.Rows = []int{}, []api.Row{{Key: "k", Cells: []string{}, Label: api.Label{S: []int{}, I: make([]int, 2)[:0]}, Who: -1}}
	for _, c := range []api.Config{c, other} {
		x := all(t, c)
		x.wants(0, "0: 0 1", get("k"), update("k", "", 1), count("k"))
		x.stands()
	}
	c.Rows, other.Rows = nil, []api.Row{}
	for _, c := range []api.Config{c, other} {
		for _, steps := range [][]api.Step{nil, {}} {
			if out, log, e := okws.Run(c, steps); len(out) != 0 || e != api.OK || len(log.Grants) != 3 {
				t.Error(out, log, e)
			}
		}
	}
}

// R3: Run keeps and changes none of the steps.
func TestRunKeepsNothing(t *testing.T) {
	x := inTheMiddle(t)
	steps := behind(x.steps, api.Step{Kind: 99}, api.Step{Kind: api.StepTable, At: 1})
	got, log, e := okws.Run(x.b.c, steps)
	if e != api.OK || fmt.Sprint(got) != fmt.Sprint(x.outs) || !alikeLogs(log, x.w.Log()) || !slices.Equal(steps, x.steps) || steps[:len(steps)+1][len(steps)].Kind != 99 {
		t.Fatal(e)
	}
	spoil(got, api.Out{})
	spoilLog(log)
	spoil(steps, api.Step{})
	got, log, e = okws.Run(x.b.c, x.steps)
	if e != api.OK || fmt.Sprint(got) != fmt.Sprint(x.outs) || !alikeLogs(log, x.w.Log()) {
		t.Fatal(e)
	}
}

// R2: steps that are refused have changed nothing, wherever they come.
func TestRefused(t *testing.T) {
	x := inTheMiddle(t)
	steps := x.w.Steps()
	for range 3 {
		for _, s := range wrongSteps() {
			if s.Kind >= api.StepWorker && s.At == 2 {
				continue // there are three users
			}
			if out, e := x.tries(s); e != api.ErrArg || out != nil {
				t.Error(shown(s), out, e)
			}
		}
		if x.w.Steps() != steps {
			t.Error(x.w.Steps())
		}
		x.stands()
	}
}

// R4: a copy stands as the web does, with all that waits; each goes its own way.
func TestCopy(t *testing.T) {
	x := inTheMiddle(t)
	c := x.copy()
	c.stands()
	// Each of these is seen by one of both alone.
	x.idd(10)
	c.wantNothing(10)
	c.shut(11)
	x.idd(11)
	x.table(0)
	c.worker(0, 1<<20)
	c.wantNothing(5)
	x.finish(0)
	if r := x.parsedReply(x.conn(5)); r.Status != 200 {
		t.Error(r)
	}
	if r := x.parsedReply(x.conn(9)); r.Status != 200 {
		t.Error(r)
	}
	d := c.copy()
	c.finish(1)
	d.finish(0)
	for _, one := range []*pair{x, c, d} {
		one.stands()
	}
	x.finish(1)
	c.finish(0)
	d.finish(1)
	d.idd(10)
	for _, one := range []*pair{x, c, d} {
		one.wantBusy(0, false)
		one.wantBusy(1, false)
		one.stands()
	}
	if n, m := len(x.w.Log().Tokens), len(c.w.Log().Tokens); n != m+2 {
		t.Error(n, m)
	}
}

// R4: copies and copies of these, each changed behind the others' backs.
func TestCopiesDrawn(t *testing.T) {
	for seed := range int64(20) {
		d := draws(seed + 300)
		all := []*pair{d.web(t)}
		for range 5 {
			for range 100 {
				x := all[d.Intn(len(all))]
				x.tries(d.step(x))
			}
			all = append(all, all[d.Intn(len(all))].copy())
			for _, one := range all {
				one.sees()
			}
		}
		for _, one := range all {
			one.stands()
		}
	}
}

// R4: webs know nothing of other ones, at one time too.
func TestApart(t *testing.T) {
	d := draws(1)
	start := d.web(t)
	for range 200 {
		start.tries(d.step(start))
	}
	for k := range int64(8) {
		c := start.copy()
		t.Run(fmt.Sprint(k), func(t *testing.T) {
			t.Parallel()
			c.t = t
			d := draws(k / 2)
			x := d.web(t)
			for range 200 {
				x.tries(d.step(x))
				c.tries(d.step(c))
			}
			x.stands()
			c.stands()
		})
	}
	start.stands()
}

// R4: the same steps answer the same.
func TestSameAgain(t *testing.T) {
	for seed := range int64(20) {
		var outs [2]string
		for run := range outs {
			d := draws(seed + 200)
			x := d.web(t)
			for range 200 {
				out, e := x.tries(d.step(x))
				outs[run] += fmt.Sprint(out, e)
			}
			outs[run] += fmt.Sprint(x.w.Log(), x.w.Rows())
		}
		if outs[0] != outs[1] {
			t.Fatal(seed)
		}
	}
}

// R5: numbers are written in decimal digits: of who is told, and of what is given.
func TestNumbersNoted(t *testing.T) {
	c := config(t, 12, 0b111111111111)
	x := all(t, c)
	x.wants(11, "0 0 0 0", send(0, "", 1), send(10, " ", 1), gives(10, 24), gives(0, 23))
	x.wants(0, "0", gives(11, 23))
	x.wants(11, "12000 0", makes(), gives(9, 12000))
	x.wantUses("11 [23] send 0 ", "11 [23] send 10  ", "11 [23] give 24 10", "11 [23] give 23 0", "0 [1] give 23 11", "11 [23] give 12000 9")
	if got := strings.Count(fmt.Sprint(x.w.Log().Uses), "  "); got == 0 {
		t.Error(got)
	}
	x.stands()
}
