package demux_test

import (
	"cloister/api"
	"cloister/parse"
	"cloister/reply"
	"fmt"
	"strings"
	"testing"
)

// The first thing: an answer goes out ahead of all else, however it was asked for.
func TestAnswerFirst(t *testing.T) {
	asks := []string{get("/", sid("t")), post("/login", "user=a&word=w"), post("/logout", "", sid("t"))}
	for _, ask := range asks {
		behind := map[string]func(x *pair){
			"":                                     func(x *pair) { x.wantNothing(0); x.wantNothing(0) },
			"GET":                                  func(x *pair) { x.wantNothing(0) },
			get("/"):                               func(x *pair) { x.wantStatus(0, 401, false) },
			ask:                                    func(x *pair) { x.pick(0); x.wantWaits(0, true) },
			"x\r\n\r\n":                            func(x *pair) { x.wantStatus(0, 400, true) },
			strings.Repeat("x", 5000):              func(x *pair) { x.wantStatus(0, 431, true) },
			get("/") + strings.Repeat("x", feed):   func(x *pair) { x.wantStatus(0, 413, true) },
			strings.Repeat("x", feed) + "too much": func(x *pair) { x.wantStatus(0, 413, true) },
		}
		for text, then := range behind {
			x := made(t, 1, 1, 1)
			x.bind("t", 0)
			x.arrive(0, ask)
			x.pick(0)
			x.wantWaits(0, true)
			x.arrive(0, text[:len(text)/2])
			x.wantNothing(0)
			x.answer(0, reply.Plain(200, "first", false))
			x.arrive(0, text[len(text)/2:])
			x.wantText(0, 200, "first", false)
			then(x)
			x.stands()
		}
	}
}

// The second thing: whoever waits does nothing, whatever arrived: a request, what
// is none, what found no room, with no room for a second one.
func TestWaitsSecond(t *testing.T) {
	asks := []string{get("/", sid("t")), post("/login", "user=a&word=w"), post("/logout", "", sid("t"))}
	for _, ask := range asks {
		for _, behind := range []string{"", "x", get("/"), ask, "x\r\n\r\n", strings.Repeat("x", 5000), strings.Repeat("x", feed)} {
			x := made(t, 1, 1, 1)
			x.bind("t", 0)
			x.arrive(0, ask)
			x.pick(0)
			x.arrive(0, behind)
			x.arrive(0, behind)
			for range 3 {
				x.wantNothing(0)
				x.wantWaits(0, true)
			}
			x.stands()
		}
	}
}

// The third thing: 413 by what found no room, ahead of what is wrong in what found
// some, and of whole requests.
func TestNoRoomThird(t *testing.T) {
	for _, ahead := range []string{get("/"), get("/", sid("t")), post("/login", "user=a&word=w"), "x\r\n\r\n", strings.Repeat("x", 5000), strings.Replace(get("/"), "1.1", "1.7", 1), ""} {
		x := made(t, 1, 1, 1)
		x.bind("t", 0)
		x.arrive(0, ahead)
		x.arrive(0, strings.Repeat("x", feed-len(ahead)))
		x.arrive(0, "y")
		x.arrive(0, get("/"))
		x.wantStatus(0, 413, true)
		x.wantUser(0, -1)
		x.wantCounts(0, 0, 0)
		x.wantNothing(0)
		x.stands()
	}
}

// The fourth thing, P7: what is no request closes its connection by a status,
// behind those that are right.
func TestStatuses(t *testing.T) {
	wrong := []struct {
		text   string
		status int
	}{
		{"x\r\n\r\n", 400},
		{"\r\n\r\n", 400},
		{"GET / HTTP/1.1\r\n\r\n", 400},
		{get("/", "Host: b"), 400},
		{strings.Replace(get("/"), "1.1", "2.0", 1), 505},
		{get("/", "a: "+strings.Repeat("a", 1100)), 431},
		{strings.Repeat("a", 4097), 431},
		{post("/", "a", "Transfer-Encoding: chunked"), 400},
		{request("POST", "/", "Content-Length: 16385"), 413},
		{request("POST", "/", "Transfer-Encoding: chunked") + "ffff\r\n", 413},
		{request("POST", "/", "Transfer-Encoding: chunked") + "g", 400},
		{request("POST", "/login", "Content-Length: x") + "user=a&word=w", 400},
		{" " + get("/", sid("t"), ends), 400},
		{strings.ToLower(get("/", sid("t"))), 400},
	}
	for k, w := range wrong {
		for n := range 4 {
			x := made(t, 1, 1, 1)
			x.bind("t", 0)
			x.arrive(0, strings.Repeat(get("/", sid("t")), n)+w.text+get("/", sid("t")))
			for range n {
				x.wantForward(0, 0, get("/", sid("t")))
				x.answer(0, reply.Plain(200, "", false))
				x.wantText(0, 200, "", false)
			}
			if _, status := parse.All(w.text); status != w.status {
				t.Fatal(k, status)
			}
			x.wantStatus(0, w.status, true)
			x.wantUser(0, min(n, 1)-1)
			x.wantNothing(0)
			x.stands()
		}
	}
}

// The fifth thing: parts of a request are none; the last byte tells it.
func TestParts(t *testing.T) {
	for _, text := range []string{get("/a?b", sid("t")), post("/", "a body", sid("t")), request("PUT", "/", sid("t"), "Transfer-Encoding: chunked") + "3\r\nabc\r\n0\r\n\r\n"} {
		x := made(t, 1, 1, 1)
		x.bind("t", 0)
		for i := range len(text) {
			x.wantNothing(0)
			x.wantUser(0, -1)
			x.arrive(0, text[i:i+1])
		}
		x.wantForward(0, 0, text)
		x.stands()
	}
}

// The sixth thing: a login of each form, whatever else its request has.
func TestLogin(t *testing.T) {
	for _, form := range []struct{ body, name, word string }{
		{"user=a&word=w", "a", "w"},
		{"word=w&user=a", "a", "w"},
		{"&&user=a&&word=w&", "a", "w"},
		{"user=a&word=w&user=b&word=v", "a", "w"},
		{"word=&user=b&word=v&user=a", "b", ""},
		{"user=&word=", "", ""},
		{"user&word", "", ""},
		{"user&word=w&user=a", "", "w"},
		{"USER=b&Word=v&user=a&word=w", "a", "w"},
		{"other=x&user=a&sid=t&word=w", "a", "w"},
		{"user=%61+b&word=%26%3d%0A", "a b", "&=\n"},
		{"%75ser=a&wor%64=w", "a", "w"},
		{"user=a=b&word==w=", "a=b", "=w="},
		{"word=" + strings.Repeat("w", 16000) + "&user=" + strings.Repeat("u", 300), strings.Repeat("u", 300), strings.Repeat("w", 16000)},
		{"user=a&word=w" + strings.Repeat("&x", 30), "a", "w"},
		{strings.Repeat("x&", 30) + "user=a&word=w", "a", "w"},
	} {
		for _, text := range []string{
			post("/login", form.body), post("/login?user=q&word=q", form.body), post("/%6cogin", form.body), post("/login", form.body, sid("t")), post("/login", form.body, sid("none"), "Content-Type: text/plain"),
			request("POST", "/login", "Transfer-Encoding: chunked") + fmt.Sprintf("%x\r\n%s\r\n0\r\n\r\n", len(form.body), form.body), strings.Replace(post("/login", form.body, "Connection: keep-alive"), "1.1", "1.0", 1),
		} {
			x := made(t, 1, 1, 1)
			x.bind("t", 0)
			x.arrive(0, text)
			x.wantLogin(0, form.name, form.word)
			x.wantUser(0, -1)
			x.wantCounts(0, 0, 0)
			x.wantNothing(0)
			x.stands()
		}
	}
}

// The sixth thing: what is no login's form is 400, at a connection that is a
// user's too; a right one is 403 there.
func TestLoginRefused(t *testing.T) {
	bodies := map[string]int{
		"": 400, "user=a": 400, "word=w": 400, "user=a&Word=w": 400, "users=a&word=w": 400, "user =a&word=w": 400, "user=a;word=w": 400, "user%3Da&word=w": 400,
		"user=%&word=w": 400, "user=a&word=w&x=%g1": 400, "%=&user=a&word=w": 400, "user=a&word=w" + strings.Repeat("&x", 31): 400, strings.Repeat("x&", 31) + "user=a&word=w": 400,
		"user=a&word=w": 403, "user&word": 403, "user=a&word=w&user=b": 403,
	}
	for body, status := range bodies {
		for _, user := range []int{-1, 0, 1} {
			for _, closes := range []bool{false, true} {
				x := made(t, 2, 1, 1)
				x.bind("t", max(user, 0))
				if user >= 0 {
					x.arrive(0, get("/", sid("t")))
					x.pick(0)
					x.answer(0, reply.Plain(200, "", false))
					x.pick(0)
				}
				fields := []string{sid("t")}
				if closes {
					fields = append(fields, ends)
				}
				x.arrive(0, post("/login", body, fields...))
				if user < 0 && status == 403 {
					x.pick(0)
					x.wantWaits(0, true)
				} else {
					x.wantStatus(0, status, closes)
				}
				x.wantUser(0, user)
				x.stands()
			}
		}
	}
}

// The sixth thing: only a POST to just that path is a login, or a logout.
func TestOtherPaths(t *testing.T) {
	for _, text := range []string{
		request("GET", "/login", sid("t")), request("PUT", "/login", sid("t")), request("POSTS", "/login", sid("t")), request("GET", "/logout", sid("t")), request("DELETE", "/logout", sid("t")),
	} {
		for _, body := range []string{"", "user=a&word=w"} {
			x := made(t, 1, 1, 1)
			x.bind("t", 0)
			text := strings.Replace(text, "\r\n\r\n", fmt.Sprintf("\r\nContent-Length: %d\r\n\r\n%s", len(body), body), 1)
			x.arrive(0, text)
			x.wantForward(0, 0, text)
		}
	}
	for _, path := range []string{"/Login", "/login/", "//login", "/loginx", "/logi", "/", "/x/login", "/login%00", "/login%3F", "/LOGOUT", "/logout/", "/logout%20", "/?/login", "/?/logout", "/.", "/login;a"} {
		x := made(t, 1, 1, 1)
		x.bind("t", 0)
		text := post(path, "user=a&word=w", sid("t"))
		x.arrive(0, text)
		x.wantForward(0, 0, text)
		x = made(t, 1, 1, 1)
		x.arrive(0, post(path, "user=a&word=w"))
		x.wantStatus(0, 401, false)
		x.stands()
	}
}

// The sixth thing, De4, P2: whose a request is by its cookies.
func TestCookies(t *testing.T) {
	for _, w := range []struct {
		user   int
		fields []string
	}{
		{-1, nil},
		{-1, []string{"Cookie: "}},
		{-1, []string{"Cookie: sid"}},
		{-1, []string{"Cookie: sid="}},
		{-1, []string{"Cookie: sid=none"}},
		{-1, []string{"Cookie: SID=t0"}},
		{-1, []string{"Cookie: sid =t0"}},
		{-1, []string{"Cookie: sid= t0"}},
		{-1, []string{"Cookie: sid=T0"}},
		{-1, []string{"Cookie: sid=\"t0\""}},
		{-1, []string{"Cookie: sid=%740"}},
		{-1, []string{"Cookie: sid=t0,"}},
		{-1, []string{"Cookie: sid=t0, sid=t1"}},
		{-1, []string{"Cookie: sid=t"}},
		{-1, []string{"Cookie: sid=t00"}},
		{-1, []string{"Cookie: sid==t0"}},
		{-1, []string{"Cookie: xsid=t0"}},
		{-1, []string{"Cookies: sid=t0"}},
		{-1, []string{"Set-Cookie: sid=t0"}},
		{-1, []string{"sid: t0"}},
		{-1, []string{"Authorization: t0"}},
		{-1, []string{"Cookie: $sid=t0"}},
		{0, []string{"Cookie: sid=t0"}},
		{0, []string{"COOKIE:sid=t0"}},
		{0, []string{"cookie: \t sid=t0 \t "}},
		{1, []string{"Cookie: a=b; sid=t1; c=d"}},
		{1, []string{"Cookie: a; ;;sid=t1"}},
		{0, []string{"Cookie: SID=t1; sid=t0"}},
		// The first one counts, whosever it is.
		{0, []string{"Cookie: sid=t0; sid=t1"}},
		{1, []string{"Cookie: sid=t1; sid=t0"}},
		{-1, []string{"Cookie: sid=none; sid=t0"}},
		{-1, []string{"Cookie: sid=; sid=t0"}},
		{0, []string{"Cookie: sid; sid=t0"}},
		{0, []string{"Cookie: sid=t0", "Cookie: sid=t1"}},
		{1, []string{"Cookie: sid=t1", "Cookie: sid=t0"}},
		{-1, []string{"Cookie: sid=none", "Cookie: sid=t0"}},
		{-1, []string{"Cookie: sid=", "Cookie: sid=t0"}},
		{1, []string{"Cookie: a=b", "X: sid=t0", "Cookie: c=d; sid=t1"}},
		{0, []string{"Cookie: sid", "Cookie: sid=t0; sid=t1"}},
		{0, []string{"Cookie:", "cookie: sid=t0"}},
		// Of each field there are so many cookies, and of the next one again.
		{1, []string{"Cookie: " + strings.Repeat("a=;", 31) + "sid=t1"}},
		{-1, []string{"Cookie: " + strings.Repeat("a=;", 32) + "sid=t1"}},
		{0, []string{"Cookie: " + strings.Repeat("a=;", 32) + "sid=t1", "Cookie: sid=t0"}},
		{1, []string{"Cookie: " + strings.Repeat("a;", 100) + "sid=t1"}},
	} {
		for _, target := range []string{"/", "/?sid=t1", "/login"} {
			x := made(t, 2, 1, 1)
			x.bind("t0", 0)
			x.bind("t1", 1)
			text := get(target, w.fields...)
			x.arrive(0, text)
			if w.user < 0 {
				x.wantStatus(0, 401, false)
				x.wantUser(0, -1)
			} else {
				x.wantForward(0, w.user, text)
			}
			for user := range 2 {
				n := 0
				if user == w.user {
					n = 1
				}
				x.wantCounts(user, n, n)
			}
			x.stands()
		}
	}
}

// A body and a query tell no token.
func TestTokenElsewhere(t *testing.T) {
	x := made(t, 1, 1, 1)
	x.bind("t", 0)
	x.arrive(0, post("/?sid=t", "sid=t&user=t", "X: sid=t"))
	x.wantStatus(0, 401, false)
	x.arrive(0, post("/logout?sid=t", "sid=t"))
	x.wantStatus(0, 401, false)
	x.wantUser(0, -1)
	x.stands()
}

// The sixth thing: a user's token at a connection of nobody, of that user, of
// another one.
func TestWhoseConnection(t *testing.T) {
	for _, what := range []string{"/", "/logout"} {
		x := made(t, 2, 64, 64)
		x.bind("t0", 0)
		x.bind("u0", 0)
		x.bind("t1", 1)
		conn := 0
		for _, first := range []string{"t0", "u0", "t1"} {
			for _, then := range []string{"t0", "u0", "t1", "none", ""} {
				user := map[string]int{"t0": 0, "u0": 0, "t1": 1}
				x.arrive(conn, get("/", sid(first)))
				x.wantForward(conn, user[first], get("/", sid(first)))
				x.answer(conn, reply.Plain(200, "", false))
				x.pick(conn)
				text := post(what, "", sid(then))
				x.arrive(conn, text)
				whose, is := user[then]
				switch {
				case !is:
					x.wantStatus(conn, 401, false)
				case whose != user[first]:
					x.wantStatus(conn, 403, false)
				case what == "/":
					x.wantForward(conn, whose, text)
				default:
					x.wantLogout(conn, then, whose)
				}
				x.wantUser(conn, user[first])
				conn++
			}
		}
		x.stands()
	}
}

// The sixth thing: a logout makes a connection the user's, and counts for no
// request; its token is bound till it is freed.
func TestLogout(t *testing.T) {
	x := made(t, 1, 2, 1)
	x.bind("t", 0)
	text := post("/logout", "", sid("t"))
	x.arrive(0, text+text)
	x.wantLogout(0, "t", 0)
	x.wantUser(0, 0)
	x.wantCounts(0, 1, 0)
	x.wantNothing(0)
	x.answer(0, reply.Plain(200, "bye", false))
	x.wantText(0, 200, "bye", false)
	x.wantLogout(0, "t", 0)
	// A user that has as many requests waiting as it may have logs out all the same.
	x.arrive(1, get("/", sid("t")))
	x.wantForward(1, 0, get("/", sid("t")))
	x.answer(0, reply.Plain(200, "bye", false))
	x.free("t")
	x.wantText(0, 200, "bye", false)
	x.arrive(0, text)
	x.wantStatus(0, 401, false)
	x.bind("t", 0)
	x.arrive(0, text)
	x.wantLogout(0, "t", 0)
	x.stands()
}

// The sixth thing, P4: as many open connections as a user may have.
func TestMostConns(t *testing.T) {
	for _, what := range []string{"/", "/logout"} {
		for _, most := range []int{1, 2, 20, 31} {
			x := made(t, 2, most, 64)
			x.bind("t", 0)
			x.bind("u", 0)
			x.bind("v", 1)
			for conn := range most {
				x.arrive(conn, get("/", sid("t")))
				x.wantForward(conn, 0, get("/", sid("t")))
				x.wantCounts(0, conn+1, conn+1)
			}
			for conn := most; conn < most+2; conn++ {
				x.arrive(conn, post(what, "", sid("u"))+get("/", sid("v")))
				x.wantStatus(conn, 503, true)
				x.wantUser(conn, -1)
				x.wantNothing(conn)
			}
			x.wantCounts(0, most, most)
			// Another user has its own, and this one goes on at those that it has.
			x.arrive(61, get("/", sid("v")))
			x.wantForward(61, 1, get("/", sid("v")))
			x.answer(0, reply.Plain(200, "", false))
			x.pick(0)
			x.arrive(0, get("/", sid("u")))
			x.wantForward(0, 0, get("/", sid("u")))
			// Logins need no room, nor does what is nobody's.
			x.arrive(62, get("/")+post("/login", "user=a&word=w"))
			x.wantStatus(62, 401, false)
			x.wantLogin(62, "a", "w")
			x.answer(62, reply.Plain(200, "", false))
			x.pick(62)
			// One that is closed makes room, though its request is not answered.
			x.shut(0)
			x.wantCounts(0, most-1, most)
			x.arrive(62, post(what, "", sid("t")))
			x.pick(62)
			x.wantWaits(62, true)
			x.wantUser(62, 0)
			x.arrive(63, get("/", sid("t")))
			x.wantStatus(63, 503, true)
			x.stands()
		}
	}
}

// The sixth thing, P4: as many requests that are not answered as a user may have.
// The connection becomes the user's, and stays open.
func TestMostAsks(t *testing.T) {
	for _, most := range []int{1, 2, 20, 31} {
		x := made(t, 2, 64, most)
		x.bind("t", 0)
		x.bind("u", 0)
		x.bind("v", 1)
		text := get("/", sid("t"))
		for conn := range most {
			x.arrive(conn, text)
			x.wantForward(conn, 0, text)
		}
		for conn := most; conn < most+3; conn++ {
			x.arrive(conn, get("/", sid("u"))+text)
			x.wantStatus(conn, 503, false)
			x.wantUser(conn, 0)
			x.wantStatus(conn, 503, false)
			x.wantCounts(0, conn+1, most)
		}
		x.arrive(40, get("/", sid("v")))
		x.wantForward(40, 1, get("/", sid("v")))
		x.arrive(41, get("/", sid("t"), ends)+text)
		x.wantStatus(41, 503, true)
		x.wantUser(41, 0)
		// One that is shut makes none less, till it is answered.
		x.shut(0)
		x.arrive(most, text)
		x.wantStatus(most, 503, false)
		x.answer(0, reply.Plain(200, "", false))
		x.arrive(most, text)
		x.wantForward(most, 0, text)
		x.wantCounts(0, most+2, most)
		x.stands()
	}
}

// The sixth thing: both at one time: what is told first is the connection's.
func TestMostOfBoth(t *testing.T) {
	x := made(t, 1, 1, 1)
	x.bind("t", 0)
	x.arrive(0, get("/", sid("t")))
	x.pick(0)
	x.arrive(1, get("/", sid("t")))
	x.wantStatus(1, 503, true)
	x.wantUser(1, -1)
	x.stands()
}

// Requests that close: each status closes too, and what waits is kept till then.
func TestRequestsThatClose(t *testing.T) {
	closing := []string{ends, "Connection: x, CLOSE", "connection: keep-alive, close"}
	for _, field := range closing {
		for k, text := range []string{
			get("/", field), get("/", field, sid("none")), post("/login", "", field), post("/logout", "", field), get("/", field, sid("t1")), post("/login", "user=a&word=w", field),
		} {
			x := made(t, 2, 2, 2)
			x.bind("t0", 0)
			x.bind("t1", 1)
			x.arrive(0, get("/", sid("t0")))
			x.pick(0)
			x.answer(0, reply.Plain(200, "", false))
			x.pick(0)
			x.arrive(0, text+get("/", sid("t0")))
			x.wantStatus(0, []int{401, 401, 400, 401, 403, 403}[k], true)
			x.wantUser(0, 0)
			x.wantCounts(0, 0, 0)
			x.wantNothing(0)
			x.stands()
		}
	}
	old := strings.Replace(get("/", sid("t")), "1.1", "1.0", 1)
	x := made(t, 1, 2, 2)
	x.bind("t", 0)
	x.arrive(0, old+old)
	x.wantForward(0, 0, old)
	if !x.d.Open(0) {
		t.Error("closed by its request alone")
	}
	x.answer(0, reply.Plain(200, "", false))
	x.wantText(0, 200, "", true)
	x.stands()
}

// All bytes of a text, at all arguments: nothing panics, all is told.
func TestAllBytes(t *testing.T) {
	d := draws(7, 2)
	for range 300 {
		x := made(t, 2, 2, 2)
		x.bind("t1", 1)
		text := []byte(d.text() + d.text())
		for range d.Intn(3) {
			text[d.Intn(len(text))] = byte(d.Intn(256))
		}
		x.arrive(0, string(text))
		for range 5 {
			x.pick(0)
			if x.d.Waits(0) {
				x.want(x.answer(0, d.response()), api.OK)
			}
		}
		x.sees()
	}
}
