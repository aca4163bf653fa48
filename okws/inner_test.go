package okws

import (
	"cloister/api"
	"cloister/code"
	"cloister/demux"
	"cloister/sha"
	"fmt"
	"testing"
)

// made is a web of two users who have sessions t0 and t1, of a code.
func made(t *testing.T, text string) *Web {
	t.Helper()
	l, e, _ := code.Parse(text)
	digest, f := sha.Salted("s", "w")
	if e != api.OK || f != api.OK {
		t.Fatal(e, f)
	}
	c := api.Config{Code: l, Conns: 64, Asks: 64, Quota: 1000, Fuel: 1000}
	for _, name := range []string{"a", "b"} {
		c.Users = append(c.Users, api.User{Name: name, Salt: "s", Digest: digest, Open: true})
	}
	w, e := New(c)
	if e != api.OK {
		t.Fatal(e)
	}
	for who := range 2 {
		w.conns.Bind(fmt.Sprint("t", who), who)
	}
	return w
}

// does does steps.
func (w *Web) does(t *testing.T, steps ...api.Step) {
	t.Helper()
	for _, s := range steps {
		if _, e := w.Step(s); e != api.OK {
			t.Fatal(s, e)
		}
	}
}

// handed lets a request of a user wait for its event process.
func handed(conn, who int) []api.Step {
	text := fmt.Sprintf("GET / HTTP/1.1\r\nHost: a\r\nCookie: sid=t%d\r\n\r\n", who)
	return []api.Step{{Kind: api.StepArrive, At: conn, Bytes: text}, {Kind: api.StepConn, At: conn}}
}

// What is done is kept no longer: requests, operations, logins, logouts.
func TestNothingIsLeft(t *testing.T) {
	w := made(t, "push 0\npush 1\ntrap 7\nhalt")
	for round := range 3 {
		for conn := range 4 {
			w.does(t, handed(10*round+conn, 1)...)
		}
		if n := len(w.workers[1].waiting); n != 4 {
			t.Fatal(n)
		}
		for n := 3; n >= 0; n-- {
			w.does(t, api.Step{Kind: api.StepWorker, At: 1, Ticks: 99})
			if got := w.workers[1]; len(got.waiting) != n || got.table.Kind != api.OpScan || got.process.Input() == "" {
				t.Fatal(got)
			}
			for _, r := range w.workers[1].waiting[n:cap(w.workers[1].waiting)] {
				if r != (request{}) {
					t.Fatal("a request that began is kept:", r)
				}
			}
			w.does(t, api.Step{Kind: api.StepTable, At: 1})
			if got := w.workers[1].table; got.Kind != 0 || got.Key != "" || got.Most != 0 {
				t.Fatal(got)
			}
			w.does(t, api.Step{Kind: api.StepWorker, At: 1, Ticks: 99})
		}
		if w.workers[1].isBusy() || w.workers[0].isBusy() {
			t.Fatal("it is done")
		}
	}
	for conn, text := range []string{"user=a&word=w", "user=a&word=x"} {
		bytes := fmt.Sprintf("POST /login HTTP/1.1\r\nHost: a\r\nContent-Length: %d\r\n\r\n%s", len(text), text)
		w.does(t, api.Step{Kind: api.StepArrive, At: 40 + conn, Bytes: bytes}, api.Step{Kind: api.StepConn, At: 40 + conn})
	}
	w.does(t, api.Step{Kind: api.StepArrive, At: 42, Bytes: "POST /logout HTTP/1.1\r\nHost: a\r\nCookie: sid=t0\r\n\r\n"}, api.Step{Kind: api.StepConn, At: 42})
	c := w.Copy()
	for n := 3; n > 0; n-- {
		if len(w.asked) != n || w.asked[39+n].Kind == demux.Nothing {
			t.Fatal(w.asked)
		}
		w.does(t, api.Step{Kind: api.StepIdd, At: 39 + n})
	}
	if len(w.asked) != 0 || len(c.asked) != 3 {
		t.Error(w.asked, c.asked)
	}
}

// There is a system call of each number, and of no other one.
func TestTraps(t *testing.T) {
	w := made(t, "halt")
	all := w.traps()
	for n := -1; n <= 100; n++ {
		if one, there := all[n]; there != (n >= api.SysReply && n <= api.SysWho) || there != (one.does != nil) {
			t.Error(n, there)
		}
	}
	if api.SysReply != 1 || api.SysWho != 12 {
		t.Error("a number is another one")
	}
}

// No request's text is longer than an event process takes: each byte of a line
// of a head becomes three at the most.
func TestLongestText(t *testing.T) {
	query := []api.Pair{{Name: string(make([]byte, api.MaxLine))}}
	r := api.Request{Head: api.Head{Method: "POST"}, Path: "/", Query: query, Body: string(make([]byte, api.MaxBody))}
	if n := len(textOf(r)); n > api.MaxFeed || n < api.MaxBody+3*api.MaxLine {
		t.Error(n)
	}
}

// A copy shares nothing that is changed in place.
func TestCopySharesNothing(t *testing.T) {
	w := made(t, "push 0\npush 1\ntrap 7\nhalt")
	w.does(t, handed(0, 0)...)
	w.does(t, handed(1, 0)...)
	w.does(t, handed(2, 1)...)
	w.does(t, api.Step{Kind: api.StepWorker, At: 1, Ticks: 99})
	w.noteToken(0, "token", true)
	c := w.Copy()
	if c.people == w.people || c.conns == w.conns || c.rows == w.rows || c.mail == w.mail || c.self != c || w.self != w {
		t.Error("a part is shared")
	}
	for who := range w.workers {
		if &w.workers[who] == &c.workers[who] || w.workers[who].process == c.workers[who].process {
			t.Error("an event process is shared")
		}
	}
	c.workers[0].waiting[0].text = "other"
	c.notes.Tokens[0].Token = "other"
	c.asked[5] = demux.Act{Kind: demux.Login}
	if w.workers[0].waiting[0].text == "other" || w.notes.Tokens[0].Token == "other" || len(w.asked) != 0 {
		t.Error("a list is shared")
	}
	if c.workers[1].table.Kind != api.OpScan || c.workers[1].conn != 2 || c.steps != w.steps || c.fuel != w.fuel {
		t.Error(c.workers[1], c.steps)
	}
}
