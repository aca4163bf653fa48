package okws_test

import (
	"cloister/api"
	"cloister/label"
	"cloister/okws"
	"fmt"
	"math"
	"strings"
	"testing"
)

// The chapter's example: ticks that are just enough, and one less.
func TestExample(t *testing.T) {
	c := config(t, 1, 0)
	c.Code, c.Image, c.Fuel = parsed(t, "push 200\npush 0\npush 2\ntrap 1"), "hi", 9
	x := all(t, c)
	for _, path := range []string{"/", "/a?b=c", "/login"} {
		x.arrive(0, gets(path, sid(x.tokens[0])))
		x.conn(0)
		x.worker(0, 4)
		if r := x.parsedReply(x.conn(0)); r.Status != 200 || r.Body != "hi" || r.Close || len(r.Fields) > 0 {
			t.Fatal(r)
		}
		x.arrive(0, gets(path, sid(x.tokens[0])))
		x.conn(0)
		x.worker(0, 3)
		if out := x.conn(0); out != "" || !x.w.Busy(0) {
			t.Fatalf("%q", out)
		}
		x.worker(0, 1)
		if r := x.parsedReply(x.conn(0)); r.Status != 200 || r.Body != "hi" {
			t.Fatal(r)
		}
	}
	x.stands()
}

// DOC.md, example 1: what one inserts at its secrecy the other one is told
// nothing of.
func TestWhole1(t *testing.T) {
	x := all(t, config(t, 2, 0b01))
	x.wants(0, "0 1:v 1", insert("k", "v", 0), get("k"), count("k"))
	x.wants(1, "-1 0 3 3 3", get("k"), count("k"), update("k", "x", 0), update("k", "x", 1), remove("k", 1))
	x.wants(1, "0 1:w 1", insert("k", "w", 0), get("k"), count("k"))
	x.wants(0, "1:v 1", get("k"), count("k"))
	x.wantUses()
	x.wantChanges("0 1 k [1] [2]", "1 1 k [3] [4]")
	x.stands()
}

// Example 2: what an open one inserts in the open.
func TestWhole2(t *testing.T) {
	x := all(t, config(t, 2, 0b01))
	x.wants(0, "0 1:v", insert("k", "v", 1), get("k"))
	x.wants(1, "1:v 1 21 21", get("k"), count(""), insert("k", "w", 1), insert("l", "w", 1))
	x.wants(0, "120", insert("k", "w", 1))
	x.wantUses("0 [1] insert k v")
	if rows := fmt.Sprint(x.w.Rows()); rows != "[{k [v] {[] [2]} 0}]" {
		t.Error(rows)
	}
	x.stands()
}

// Example 3: one that never ends.
func TestWhole3(t *testing.T) {
	for _, fuel := range []int{1, 2, 500, 1 << 20} {
		c := config(t, 2, 0)
		c.Fuel = fuel
		c.Code = parsed(t, "jump 0")
		x := all(t, c)
		if r := x.serves(0, gets("/", sid(x.tokens[0]))); r.Status != 500 || r.Body != "" || r.Close || len(r.Fields) > 0 {
			t.Error(r)
		}
		x.stands()
	}
}

// Example 4: the right word, and another one.
func TestWhole4(t *testing.T) {
	x := made(t, config(t, 2, 0))
	for _, wrong := range []string{"", "wb", "wa+", "wa%00", "Wa", "w"} {
		x.arrive(0, signIn(0, wrong))
		x.conn(0)
		x.idd(0)
		if r := x.parsedReply(x.conn(0)); r.Status != 401 || r.Body != "" || r.Close || len(r.Fields) > 0 {
			t.Error(r)
		}
	}
	token := x.enter(0, 0)
	if log := fmt.Sprint(x.w.Log().Tokens); log != "[{26 0 "+token+" true}]" {
		t.Error(log)
	}
	x.stands()
}

// Example 5: the cookie of nobody's session, and another user's.
func TestWhole5(t *testing.T) {
	x := all(t, config(t, 2, 0))
	x.arrive(0, gets("/", sid("none")))
	if r := x.parsedReply(x.conn(0)); r.Status != 401 || r.Body != "" || x.w.User(0) != -1 {
		t.Error(r)
	}
	x.wants(0, "0", who())
	x.arrive(0, gets("/", sid(x.tokens[1])))
	if r := x.parsedReply(x.conn(0)); r.Status != 403 || r.Body != "" || x.w.User(0) != 0 || x.w.Busy(1) {
		t.Error(r)
	}
	x.stands()
}

// Example 6: a body by its length and in chunks.
func TestWhole6(t *testing.T) {
	x := all(t, config(t, 1, 0))
	x.arrive(0, request("POST", "/", sid(x.tokens[0]), "Content-Length: 5", "Transfer-Encoding: chunked")+"0\r\n\r\n")
	out, e := x.tries(api.Step{Kind: api.StepConn, At: 0})
	if e != api.OK || len(out) != 1 || !out[0].Close || x.parsedReply(out[0].Bytes).Status != 400 || x.w.Busy(0) {
		t.Error(out, e)
	}
	x.arrive(0, gets("/", sid(x.tokens[0])))
	if out := x.conn(0); out != "" {
		t.Error(out)
	}
	x.stands()
}

// Example 7: a message of one that is not open.
func TestWhole7(t *testing.T) {
	x := all(t, config(t, 2, 0b10))
	x.wants(0, "0 0", send(1, "a", 0), send(1, "a", 1))
	x.wants(1, "-1 0", recv(), send(0, "b", 1))
	x.wants(0, "1:b -1", recv(), recv())
	x.wantUses("1 [3] send 0 b")
	x.stands()
}

// Example 8: integrity that is given, then used.
func TestWhole8(t *testing.T) {
	x := all(t, config(t, 2, 0b11))
	x.wants(0, "0", insert("k", "v", 1))
	x.wants(1, "21", update("k", "w", 1))
	x.wants(0, "0", gives(1, 2))
	x.wants(1, "0 1:w", update("k", "w", 1), get("k"))
	x.wantGrants("0 1 2")
	x.wantChanges("0 1 k [] [2]", "1 2 k [] [2]")
	x.wantUses("0 [1] insert k v", "0 [1] give 2 1", "1 [3] update k w")
	l := x.w.Log()
	if grant, change := l.Grants[len(l.Grants)-1].Step, l.Changes[1].Step; grant >= change {
		t.Error(grant, change)
	}
	x.stands()
}

// Example 9: as many requests as a user may have, and one more.
func TestWhole9(t *testing.T) {
	c := config(t, 2, 0)
	c.Asks = 2
	x := all(t, c)
	for conn := range 3 {
		x.arrive(conn, gets("/", sid(x.tokens[0])))
	}
	for conn := range 2 {
		if out := x.conn(conn); out != "" {
			t.Error(out)
		}
	}
	if r := x.parsedReply(x.conn(2)); r.Status != 503 || r.Close {
		t.Error(r)
	}
	x.arrive(3, gets("/", sid(x.tokens[1])))
	if out := x.conn(3); out != "" || !x.w.Busy(1) {
		t.Error(out)
	}
	x.finish(0)
	for _, conn := range []int{1, 0} {
		if r := x.parsedReply(x.conn(conn)); r.Status != 500 {
			t.Error(r)
		}
	}
	x.stands()
}

// Example 10: a label's text, and where it flows; as rows that users see.
func TestWhole10(t *testing.T) {
	a, e := label.Parse("{1,3|2}")
	if e != api.OK || fmt.Sprint(a) != "{[1 3] [2]}" {
		t.Error(a, e)
	}
	for _, to := range []string{"{1,3,5|}", "{1|}"} {
		l, _ := label.Parse(to)
		lacks, e := label.Flows(a, l, []int{3})
		if e != api.OK || fmt.Sprint(lacks) != map[string]string{"{1,3,5|}": "[]", "{1|}": "[3]"}[to] {
			t.Error(to, lacks, e)
		}
	}
	c := config(t, 2, 0b10)
	c.Rows = []api.Row{{Key: "k", Cells: []string{"v"}, Label: a, Who: -1}}
	x := all(t, c)
	x.wants(0, "-1", get("k")) // it sees 1
	x.wants(1, "-1", get("k")) // it sees 3
	x.wants(1, "0", gives(0, 3))
	x.wants(0, "1:v", get("k"))
	x.stands()
}

func TestLimits(t *testing.T) {
	if api.MaxSteps != 65536 || api.MaxMem != 4096 || api.MaxConns != 64 || api.MaxFuel != 1048576 || api.MaxFeed != 65536 || api.MaxMail != 64 || api.MaxScan != 256 || api.MaxMade != 16 {
		t.Error("a limit is another one")
	}
	if api.ErrConfig != 190 || api.ErrArg != 1 || api.ErrFull != 2 {
		t.Error("an error is another one")
	}
}

// may holds Check, New and Run against whether a configuration may be.
func may(t *testing.T, c api.Config, want bool) {
	t.Helper()
	e := okws.Check(c)
	w, eNew := okws.New(c)
	out, log, eRun := okws.Run(c, nil)
	if want != (e == api.OK) || e != eNew || e != eRun || want != (w != nil) || out != nil {
		t.Fatalf("Check %v, New %v, Run %v; want %v", e, eNew, eRun, want)
	}
	if !want && (e != api.ErrConfig || !alikeLogs(log, api.Log{})) {
		t.Fatalf("%v, %v", e, log)
	}
	if want {
		made(t, c).sees()
	}
}

// with tries a configuration that is changed.
func with(t *testing.T, want bool, change func(c *api.Config)) {
	t.Helper()
	c := config(t, 2, 1)
	c.Code = []api.Instr{{Op: api.Halt}}
	change(&c)
	may(t, c, want)
}

// Ok1: which users there may be.
func TestConfigUsers(t *testing.T) {
	for n := range 20 {
		with(t, n >= 1 && n <= 16, func(c *api.Config) { c.Users = people(n, 0) })
	}
	for _, change := range []func(u *api.User){
		func(u *api.User) { u.Name = "" },
		func(u *api.User) { u.Name = strings.Repeat("n", 33) },
		func(u *api.User) { u.Name = "b c" },
		func(u *api.User) { u.Name = "a" },
		func(u *api.User) { u.Salt = strings.Repeat("s", 33) },
		func(u *api.User) { u.Digest = u.Digest[1:] },
		func(u *api.User) { u.Digest = strings.ToUpper(u.Digest) },
		func(u *api.User) { *u = api.User{} },
	} {
		with(t, false, func(c *api.Config) { change(&c.Users[1]) })
	}
	with(t, true, func(c *api.Config) {
		c.Users[1] = api.User{Name: strings.Repeat("n", 32), Salt: strings.Repeat("s", 32), Digest: strings.Repeat("0", 64)}
	})
	may(t, api.Config{}, false)
}

// Ok1: how many draws there may be.
func TestConfigDraws(t *testing.T) {
	for _, n := range []int{0, 1, 65535, 65536, 65537, 70000} {
		with(t, n <= 65536, func(c *api.Config) { c.Draws = make([]int, n) })
	}
	with(t, true, func(c *api.Config) { c.Draws = []int{least, -1, 0, greatest} })
}

// Ok1: which code there may be.
func TestConfigCode(t *testing.T) {
	for _, n := range []int{0, 1, 2, 1023, 1024, 1025} {
		with(t, n >= 1 && n <= 1024, func(c *api.Config) {
			c.Code = nil
			for range n {
				c.Code = append(c.Code, api.Instr{Op: api.Halt})
			}
		})
	}
	for _, i := range []api.Instr{{}, {Op: 26}, {Op: -1}, {Op: api.Halt, A: 1}, {Op: api.Jump, A: 2}, {Op: api.Jump, A: -1}, {Op: api.Trap}, {Op: api.Trap, A: 100}, {Op: api.Dup, A: 64}} {
		with(t, false, func(c *api.Config) { c.Code = append(c.Code, i) })
	}
	for _, i := range []api.Instr{{Op: api.Push, A: least}, {Op: api.Jump, A: 1}, {Op: api.Trap, A: 1}, {Op: api.Trap, A: 99}, {Op: api.Dup, A: 63}} {
		with(t, true, func(c *api.Config) { c.Code = append(c.Code, i) })
	}
}

// Ok1: how long an image may be.
func TestConfigImage(t *testing.T) {
	for _, n := range []int{0, 1, 4095, 4096, 4097, 1 << 16} {
		with(t, n <= 4096, func(c *api.Config) { c.Image = strings.Repeat("\xff", n) })
	}
}

// Ok1: which rows there may be, wherever one stands that may not.
func TestConfigRows(t *testing.T) {
	row := func(change func(r *api.Row)) api.Row {
		r := api.Row{Key: "k", Cells: []string{"c"}, Label: api.Label{S: []int{1}, I: []int{2}}, Who: -1}
		change(&r)
		return r
	}
	rises := func(n int) []int {
		var out []int
		for k := range n {
			out = append(out, k+1)
		}
		return out
	}
	try := func(may bool, change func(r *api.Row)) {
		t.Helper()
		one := row(change)
		first, last := row(func(r *api.Row) { r.Key = "first" }), row(func(r *api.Row) { r.Key = "last" })
		for _, rows := range [][]api.Row{{one}, {one, first, last}, {first, one, last}, {first, last, one}} {
			with(t, may, func(c *api.Config) { c.Rows = rows })
		}
	}
	try(true, func(r *api.Row) {})
	try(true, func(r *api.Row) { *r = api.Row{Key: "k", Who: -1} })
	for _, n := range []int{0, 1, 64, 65, 1000} {
		try(n >= 1 && n <= 64, func(r *api.Row) { r.Key = strings.Repeat("\x00", n) })
		try(n <= 64, func(r *api.Row) { r.Label.S = rises(n) })
		try(n <= 64, func(r *api.Row) { r.Label.I = rises(n) })
	}
	for _, n := range []int{0, 8, 9} {
		try(n <= 8, func(r *api.Row) { r.Cells = make([]string, n) })
	}
	for _, n := range []int{256, 257} {
		try(n <= 256, func(r *api.Row) { r.Cells = []string{"", strings.Repeat("c", n)} })
	}
	for _, l := range [][]int{{0}, {-1}, {2, 1}, {1, 1}, {math.MaxInt32 + 1}} {
		try(false, func(r *api.Row) { r.Label.S = l })
		try(false, func(r *api.Row) { r.Label.I = l })
	}
	try(true, func(r *api.Row) { r.Label = api.Label{S: []int{5, math.MaxInt32}, I: []int{1 << 20}} })
	for _, who := range []int{least, -2, 0, 1, 2, 15, 16, greatest} {
		try(false, func(r *api.Row) { r.Who = who })
	}
}

// Ok1: rows of the same key.
func TestConfigRowsTwice(t *testing.T) {
	sets := [][]int{nil, {1}, {1, 2}, {2}, {1, 3}}
	for _, a := range sets {
		for _, b := range sets {
			one := api.Row{Key: "k", Cells: []string{"a"}, Label: api.Label{S: a, I: []int{2}}, Who: -1}
			other := api.Row{Key: "k", Cells: []string{"b"}, Label: api.Label{S: b, I: []int{4}}, Who: -1}
			same := fmt.Sprint(a) == fmt.Sprint(b)
			with(t, !same, func(c *api.Config) { c.Rows = []api.Row{one, {Key: "between", Who: -1}, other} })
			other.Key = "kk"
			with(t, true, func(c *api.Config) { c.Rows = []api.Row{one, {Key: "between", Who: -1}, other} })
		}
	}
	one := api.Row{Key: "k", Who: -1}
	with(t, false, func(c *api.Config) { c.Rows = []api.Row{one, one} })
	with(t, false, func(c *api.Config) { c.Rows = []api.Row{{Key: "k", Label: api.Label{S: []int{}}, Who: -1}, one} })
}

// Ok1: many rows, none of which counts for a quota.
func TestConfigManyRows(t *testing.T) {
	c := config(t, 1, 0)
	c.Quota = 0
	for k := range 2000 {
		c.Rows = append(c.Rows, api.Row{Key: fmt.Sprint(k * 7919 % 2000), Cells: []string{"c"}, Who: -1})
	}
	x := all(t, c)
	x.wants(0, "256 256 111 111 1:c 121", count(""), count("1"), count("19"), count("9"), get("1999"), insert("x", "", 0))
	if n := len(x.w.Rows()); n != 2000 {
		t.Error(n)
	}
	x.stands()
}

// Ok1: how many open connections and requests, how much room and fuel there may
// be.
func TestConfigNumbers(t *testing.T) {
	for _, n := range []int{least, -1, 0, 1, 2, 63, 64, 65, 1<<32 + 1, greatest} {
		with(t, n >= 1 && n <= 64, func(c *api.Config) { c.Conns = n })
		with(t, n >= 1 && n <= 64, func(c *api.Config) { c.Asks = n })
	}
	for _, n := range []int{least, -1, 0, 1, 1<<31 - 1, 1 << 31, 1 << 32, greatest} {
		with(t, n >= 0 && n <= 1<<31-1, func(c *api.Config) { c.Quota = n })
	}
	for _, n := range []int{least, -1, 0, 1, 1<<20 - 1, 1 << 20, 1<<20 + 1, 1<<32 + 1, greatest} {
		with(t, n >= 1 && n <= 1<<20, func(c *api.Config) { c.Fuel = n })
	}
}

// Ok1: several faults at one time.
func TestConfigAllFaults(t *testing.T) {
	faults := []func(c *api.Config){
		func(c *api.Config) { c.Users = nil },
		func(c *api.Config) { c.Draws = make([]int, 65537) },
		func(c *api.Config) { c.Code = nil },
		func(c *api.Config) { c.Image = strings.Repeat("i", 4097) },
		func(c *api.Config) { c.Rows = []api.Row{{}} },
		func(c *api.Config) { c.Conns = 0 },
		func(c *api.Config) { c.Asks = 65 },
		func(c *api.Config) { c.Quota = -1 },
		func(c *api.Config) { c.Fuel = 0 },
	}
	for set := range 1 << len(faults) {
		with(t, set == 0, func(c *api.Config) {
			for k, fault := range faults {
				if set>>k&1 == 1 {
					fault(c)
				}
			}
		})
	}
}

// What a configuration sets holds: Conns.
func TestConns(t *testing.T) {
	for _, conns := range []int{1, 3} {
		c := config(t, 2, 0)
		c.Conns = conns
		x := all(t, c)
		for conn := range conns + 2 {
			x.arrive(conn, gets("/x", sid(x.tokens[0])))
			out := x.conn(conn)
			if conn < conns {
				if out != "" || x.w.User(conn) != 0 {
					t.Error(conn, out)
				}
			} else if r := x.parsedReply(out); r.Status != 503 || !r.Close || x.w.User(conn) != -1 {
				t.Error(conn, r)
			}
		}
		x.arrive(20, gets("/x", sid(x.tokens[1])))
		if out := x.conn(20); out != "" || x.w.User(20) != 1 {
			t.Error(out)
		}
		x.stands()
	}
}

// At first nothing was done, noted or stored.
func TestAtFirst(t *testing.T) {
	c := config(t, 3, 0b010)
	c.Rows = []api.Row{{Key: "k", Cells: []string{"a", "b"}, Label: api.Label{S: []int{9}, I: []int{2}}, Who: -1}, {Key: "a", Who: -1}}
	x := made(t, c)
	if got := fmt.Sprint(x.w.Rows()); got != "[{a [] {[] []} -1} {k [a b] {[9] [2]} -1}]" {
		t.Error(got)
	}
	if got := fmt.Sprint(x.w.Log()); got != "{[{-1 -1 0 2} {-1 -1 1 4} {-1 -1 1 3} {-1 -1 2 6}] [] [] []}" {
		t.Error(got)
	}
	if x.w.Steps() != 0 || x.w.User(0) != -1 || x.w.Busy(0) {
		t.Error(x.w.Steps(), x.w.User(0), x.w.Busy(0))
	}
	x.stands()
}

// wrongSteps are steps that may not be, in a web of two users.
func wrongSteps() []api.Step {
	var out []api.Step
	for _, kind := range []int{least, -1, 0, 7, 8, 1<<32 + 1, greatest} {
		for _, at := range []int{-1, 0, 1, 63} {
			out = append(out, api.Step{Kind: kind, At: at, Ticks: 1})
		}
	}
	for kind := api.StepArrive; kind <= api.StepTable; kind++ {
		for _, at := range append(noNumbers(), 2, 3, 16, 63) {
			if at < 2 || at > 63 || kind >= api.StepWorker {
				out = append(out, api.Step{Kind: kind, At: at, Ticks: 1})
			}
		}
	}
	for _, n := range []int{feed + 1, feed + 2, 1 << 20} {
		out = append(out, api.Step{Kind: api.StepArrive, At: 0, Bytes: strings.Repeat("x", n)})
	}
	for _, ticks := range []int{least, -1, 0, 1<<20 + 1, 1<<32 + 1, greatest} {
		out = append(out, api.Step{Kind: api.StepWorker, At: 0, Ticks: ticks}, api.Step{Kind: api.StepWorker, At: 1, Ticks: ticks})
	}
	return out
}

// Ok1: steps that may not be are not done, nor do they count.
func TestStepArgs(t *testing.T) {
	x := all(t, config(t, 2, 0))
	x.arrive(0, gets("/", sid(x.tokens[0])))
	x.conn(0)
	x.worker(0, 100)
	x.arrive(5, signIn(0, "wa"))
	x.conn(5)
	steps := x.w.Steps()
	for _, s := range wrongSteps() {
		if out, e := x.tries(s); e != api.ErrArg || out != nil {
			t.Errorf("%s: %v, %v", shown(s), out, e)
		}
	}
	if x.w.Steps() != steps {
		t.Error(x.w.Steps())
	}
	x.stands()
}

// Ok1: steps at the edges of what may be.
func TestStepEdges(t *testing.T) {
	for _, users := range []int{1, 2, 16} {
		x := made(t, config(t, users, 0))
		for _, at := range []int{0, 1, 62, 63} {
			for kind := api.StepArrive; kind <= api.StepIdd; kind++ {
				x.step(api.Step{Kind: kind, At: at})
			}
		}
		for at := range users {
			x.table(at)
			for _, ticks := range []int{1, 2, 1<<20 - 1, 1 << 20} {
				x.worker(at, ticks)
			}
		}
		x.arrive(2, strings.Repeat("x", feed))
		if r := x.parsedReply(x.conn(2)); r.Status != 431 {
			t.Error(r)
		}
		x.stands()
	}
}

// Ok1: fields that a step's kind does not name are not looked at.
func TestStepOtherFields(t *testing.T) {
	x := all(t, config(t, 2, 0))
	long := strings.Repeat("x", feed+1)
	for _, ticks := range []int{least, -1, 0, 1<<20 + 1, greatest} {
		for _, bytes := range []string{"", gets("/", sid(x.tokens[0])), long} {
			plain := x.copy()
			c := x.copy()
			steps := []api.Step{
				{Kind: api.StepArrive, At: 0, Bytes: gets("/", sid(x.tokens[0])), Ticks: ticks},
				{Kind: api.StepConn, At: 0, Bytes: bytes, Ticks: ticks},
				{Kind: api.StepWorker, At: 0, Bytes: bytes, Ticks: 1 << 20},
				{Kind: api.StepTable, At: 0, Bytes: bytes, Ticks: ticks},
				{Kind: api.StepConn, At: 0, Bytes: bytes, Ticks: ticks},
				{Kind: api.StepArrive, At: 1, Bytes: signIn(1, "wb"), Ticks: ticks},
				{Kind: api.StepConn, At: 1, Bytes: bytes, Ticks: ticks},
				{Kind: api.StepIdd, At: 1, Bytes: bytes, Ticks: ticks},
				{Kind: api.StepClose, At: 1, Bytes: bytes, Ticks: ticks},
				{Kind: api.StepConn, At: 1, Bytes: bytes, Ticks: ticks},
			}
			for _, s := range steps {
				got := c.step(s)
				s = api.Step{Kind: s.Kind, At: s.At, Bytes: map[bool]string{true: s.Bytes}[s.Kind == api.StepArrive], Ticks: map[bool]int{true: s.Ticks}[s.Kind == api.StepWorker]}
				if want := plain.step(s); got != want {
					t.Fatalf("%q; want %q", got, want)
				}
			}
			c.sees()
		}
	}
}

// Ok1: MaxSteps steps, and one more, which is refused whatever it is.
func TestMaxSteps(t *testing.T) {
	c := config(t, 2, 0)
	w, e := okws.New(c)
	if e != api.OK {
		t.Fatal(e)
	}
	for k := range 65536 {
		if _, e := w.Step(api.Step{Kind: api.StepConn + k%4, At: k % 2, Ticks: 1}); e != api.OK || w.Steps() != k+1 {
			t.Fatal(k, e)
		}
	}
	for _, s := range append(wrongSteps(), api.Step{Kind: api.StepConn}, api.Step{Kind: api.StepArrive, Bytes: "x"}) {
		if out, e := w.Step(s); e != api.ErrFull || out != nil || w.Steps() != 65536 {
			t.Fatal(out, e)
		}
	}
	if c := w.Copy(); c.Steps() != 65536 {
		t.Error(c.Steps())
	} else if _, e := c.Step(api.Step{Kind: api.StepConn}); e != api.ErrFull {
		t.Error(e)
	}
	steps := make([]api.Step, 65537)
	for k := range steps {
		steps[k] = api.Step{Kind: api.StepClose}
	}
	if _, _, e := okws.Run(c, steps[:65536]); e != api.OK {
		t.Error(e)
	}
	if out, log, e := okws.Run(c, steps); e != api.ErrFull || out != nil || !alikeLogs(log, api.Log{}) {
		t.Error(out, log, e)
	}
	steps[65535].Kind = 9
	if _, _, e := okws.Run(c, steps); e != api.ErrArg {
		t.Error(e)
	}
}

// The last step that may be done is done wholly.
func TestLastStep(t *testing.T) {
	x := made(t, config(t, 1, 0))
	for range 65536 - 4 {
		if _, e := x.w.Step(api.Step{Kind: api.StepTable}); e != api.OK {
			t.Fatal(e)
		}
	}
	x.b.steps = 65536 - 4
	token := x.enter(0, 0)
	if got := fmt.Sprint(x.w.Log().Tokens); got != "[{65534 0 "+token+" true}]" {
		t.Error(got)
	}
	x.sees()
}

// Ok2: Run answers what the same steps one by one do.
func TestRun(t *testing.T) {
	for seed := range int64(40) {
		d := draws(seed)
		x := d.web(t)
		for range 150 {
			x.tries(d.step(x))
		}
		c := x.b.c
		got, log, e := okws.Run(c, x.steps)
		if e != api.OK || fmt.Sprint(got) != fmt.Sprint(x.outs) || !alikeLogs(log, x.w.Log()) {
			t.Fatalf("%v: %s, %s; want %s, %s", e, shown(got), shown(log), shown(x.outs), shown(x.w.Log()))
		}
		// The first one that is refused tells of all.
		wrong := append(x.steps[:80:80], api.Step{})
		wrong = append(wrong, x.steps[80:]...)
		if got, log, e := okws.Run(c, wrong); e != api.ErrArg || got != nil || !alikeLogs(log, api.Log{}) {
			t.Fatal(got, log, e)
		}
		c.Fuel = 0
		for _, l := range [][]api.Step{nil, x.steps, wrong} {
			if got, log, e := okws.Run(c, l); e != api.ErrConfig || got != nil || !alikeLogs(log, api.Log{}) {
				t.Fatal(got, log, e)
			}
		}
	}
}
