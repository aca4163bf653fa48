package demux

import (
	"cloister/api"
	"cloister/reply"
	"strings"
	"testing"
	"unsafe"
)

const request = "GET / HTTP/1.1\r\nHost: a\r\nCookie: sid=token\r\n\r\n"

func made(t *testing.T) *Demux {
	t.Helper()
	d, e := New(2, 64, 64)
	if e != api.OK || d.Bind("token", 1) != api.OK {
		t.Fatal(e)
	}
	return d
}

// What is closed keeps no bytes: no more than whose it is, and what it waits for.
func TestClosedKeepsNothing(t *testing.T) {
	d := made(t)
	is := func(conn, user, handed int) {
		t.Helper()
		if want := (connection{state: closed, user: user, handed: handed}); d.conns[conn] != want {
			t.Error(conn, d.conns[conn])
		}
	}
	d.Arrive(0, request+request)
	d.Pick(0)
	d.Shut(0)
	is(0, 1, Forward)
	d.Answer(0, reply.Plain(200, "late", true))
	is(0, 1, Nothing)
	d.Arrive(1, request)
	d.Pick(1)
	d.Answer(1, reply.Plain(200, "there", true))
	c := d.Copy()
	d.Shut(1)
	is(1, 1, Nothing)
	c.Pick(1)
	if c.conns[1] != d.conns[1] {
		t.Error(c.conns[1])
	}
	d.Arrive(2, strings.Repeat("x", api.MaxFeed))
	d.Arrive(2, "x")
	d.Pick(2)
	is(2, nobody, Nothing)
	d.Arrive(3, "x\r\n\r\n")
	d.Pick(3)
	is(3, nobody, Nothing)
	d.Arrive(4, "POST /login HTTP/1.0\r\nContent-Length: 10\r\n\r\nuser&word=")
	d.Pick(4)
	d.Shut(4)
	is(4, nobody, Login)
}

// What went out is kept no longer, and a freed token neither.
func TestNothingIsLeft(t *testing.T) {
	d := made(t)
	d.Arrive(0, request)
	for range 3 {
		d.Pick(0)
		d.Answer(0, reply.Plain(200, "text", false))
		d.Pick(0)
		if d.conns[0].answer != "" || d.conns[0].parser.Left() != 0 {
			t.Error(d.conns[0])
		}
		d.Arrive(0, request)
	}
	for range 3 {
		d.Bind("token", 0)
		d.Bind("other", 1)
		if len(d.sessions) != 2 {
			t.Error(d.sessions)
		}
		d.Free("token")
		d.Free("other")
		d.Free("other")
		if len(d.sessions) != 0 {
			t.Error(d.sessions)
		}
	}
}

// R3, of texts: what is kept shares no memory with what was handed in or out, nor
// with what a copy lets go out.
func TestKeptApart(t *testing.T) {
	d := made(t)
	token := string([]byte("another"))
	d.Bind(token, 0)
	d.Arrive(0, strings.Replace(request, "GET / ", "POST /logout ", 1)+request)
	act, _ := d.Pick(0)
	if act.Kind != Logout {
		t.Fatal(act)
	}
	for kept := range d.sessions {
		if unsafe.StringData(kept) == unsafe.StringData(token) || unsafe.StringData(kept) == unsafe.StringData(act.Token) {
			t.Error(kept)
		}
	}
	body := strings.Repeat("text", 10)
	d.Answer(0, reply.Plain(200, body, false))
	c := d.Copy()
	out, _ := d.Pick(0)
	if kept := c.conns[0].answer; kept != out.Out || unsafe.StringData(kept) == unsafe.StringData(out.Out) {
		t.Errorf("%q, %q", kept, out.Out)
	}
}
