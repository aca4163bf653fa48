package okws_test

import (
	"cloister/api"
	"fmt"
	"slices"
	"strings"
	"testing"
)

// wantTokens holds the sessions that were noted against what they should be: the
// user, the token's name, and whether it began.
func (x *pair) wantTokens(want ...string) {
	x.t.Helper()
	var got []string
	for _, n := range x.w.Log().Tokens {
		got = append(got, fmt.Sprint(n.User, " ", n.Token, " ", n.On))
	}
	if fmt.Sprint(got) != fmt.Sprint(want) {
		x.t.Fatalf("Tokens: %s; want %s", got, want)
	}
}

// wantStatus holds what goes out at a connection against a status without a text.
func (x *pair) wantStatus(conn, status int, closes bool) {
	x.t.Helper()
	out := x.conn(conn)
	if out == "" {
		x.t.Fatalf("nothing goes out at %d; want %d", conn, status)
	}
	if r := x.parsedReply(out); r.Status != status || r.Body != "" || r.Close != closes || len(r.Fields) > 0 {
		x.t.Fatalf("%d: %+v; want %d, %v", conn, r, status, closes)
	}
}

// opens tells whether a token is a session by which a request comes to a user: at
// a connection that was not used.
func (x *pair) opens(conn int, token string) int {
	x.t.Helper()
	x.arrive(conn, gets("/x", sid(token)))
	if out := x.conn(conn); out != "" {
		if r := x.parsedReply(out); r.Status != 401 {
			x.t.Fatal(r)
		}
		return -1
	}
	user := x.w.User(conn)
	x.finish(user)
	x.wantStatus(conn, 500, false)
	return user
}

// StepIdd: right and wrong words and names, each at a connection of its own, in
// the order of the picks.
func TestLogins(t *testing.T) {
	x := made(t, config(t, 3, 0))
	tries := []struct {
		text  string
		right bool
	}{
		{"user=a&word=wa", true}, {"user=b&word=wb", true}, {"user=c&word=wc", true},
		{"user=a&word=wb", false}, {"user=a&word=", false}, {"user=&word=wa", false}, {"user=d&word=wd", false}, {"user=A&word=wa", false},
		{"word=wa&user=a", true}, {"user=a&user=b&word=wb", false}, {"user=b&user=a&word=wb", true}, {"user=a&word=%77a&x", true},
		{"user=a&word=wa%0a", false}, {"user=a+&word=wa", false}, {"user=a%00&word=wa", false},
	}
	for conn, one := range tries {
		x.arrive(conn, posts("/login", one.text))
		x.conn(conn)
	}
	if n := len(x.w.Log().Tokens); n != 0 {
		t.Fatal(n)
	}
	var tokens []string
	for conn, one := range slices.Backward(tries) {
		x.idd(conn)
		log := x.w.Log().Tokens
		if one.right != (len(log) > len(tokens)) {
			t.Fatal(one, log)
		}
		if one.right {
			tokens = append(tokens, log[len(log)-1].Token)
		}
	}
	k := 0
	for conn, one := range slices.Backward(tries) {
		if !one.right {
			x.wantStatus(conn, 401, false)
			continue
		}
		r := x.parsedReply(x.conn(conn))
		want := api.Response{Status: 200, Fields: []api.Pair{{Name: "set-cookie", Value: "sid=" + tokens[k]}}, Body: "welcome"}
		if fmt.Sprint(r) != fmt.Sprint(want) {
			t.Fatal(r, want)
		}
		k++
		if x.w.User(conn) != -1 {
			t.Fatal(conn)
		}
	}
	for k, want := range []int{0, 1, 0, 2, 1, 0} {
		if got := x.opens(40+k, tokens[k]); got != want {
			t.Error(k, got)
		}
	}
	x.stands()
}

// The token is layer 17's, of the login's number and its draw.
func TestTokensOfDraws(t *testing.T) {
	a, b := config(t, 2, 0), config(t, 2, 0)
	a.Draws, b.Draws = []int{1, 2, 3}, []int{1, 5}
	x, y := made(t, a), made(t, b)
	for k := range 4 {
		one, other := x.enter(k, k%2), y.enter(k, k%2)
		// Behind the end of the draws all are 0.
		if (one == other) != (k == 0 || k == 3) {
			t.Error(k, one, other)
		}
	}
	x.stands()
}

// StepIdd: a login that ends the eldest session; the end is noted first.
func TestEldestEnds(t *testing.T) {
	x := made(t, config(t, 2, 0))
	other := x.enter(60, 1)
	want := []string{"1 " + other + " true"}
	var tokens []string
	for k := range 8 {
		tokens = append(tokens, x.enter(k, 0))
		want = append(want, "0 "+tokens[k]+" true")
	}
	x.wantTokens(want...)
	for k := range 8 {
		if x.opens(10+k, tokens[k]) != 0 {
			t.Fatal(k)
		}
	}
	ninth := x.enter(20, 0)
	want = append(want, "0 "+tokens[0]+" false", "0 "+ninth+" true")
	x.wantTokens(want...)
	log := x.w.Log().Tokens
	if end, begin := log[len(log)-2], log[len(log)-1]; end.Step != begin.Step || end.Step != x.w.Steps()-2 {
		t.Error(end, begin, x.w.Steps())
	}
	if x.opens(21, tokens[0]) != -1 || x.opens(22, tokens[1]) != 0 || x.opens(23, ninth) != 0 || x.opens(24, other) != 1 {
		t.Error("whose they are")
	}
	// What is refused ends nothing.
	x.arrive(25, signIn(0, "no"))
	x.conn(25)
	x.idd(25)
	x.wantStatus(25, 401, false)
	x.wantTokens(want...)
	// The next eldest is the second one, or the third, if that one ended.
	x.arrive(11, posts("/logout", "", sid(tokens[1])))
	x.conn(11)
	x.idd(11)
	want = append(want, "0 "+tokens[1]+" false")
	for k := range 2 {
		tenth := x.enter(30+k, 0)
		if k == 1 {
			want = append(want, "0 "+tokens[2]+" false")
		}
		want = append(want, "0 "+tenth+" true")
		x.wantTokens(want...)
	}
	x.stands()
}

// StepIdd: a logout, and one of a token that ended meanwhile, by another logout
// or a login.
func TestLogouts(t *testing.T) {
	x := made(t, config(t, 2, 0))
	token := x.enter(0, 1)
	for conn := 1; conn <= 3; conn++ {
		x.arrive(conn, posts("/logout", "", sid(token)))
		if x.conn(conn) != "" || x.w.User(conn) != 1 || x.w.Busy(1) {
			t.Fatal(conn)
		}
	}
	x.arrive(4, gets("/x", sid(token)))
	x.conn(4)
	x.idd(2)
	x.wantTokens("1 "+token+" true", "1 "+token+" false")
	if r := x.parsedReply(x.conn(2)); r.Status != 200 || r.Body != "bye" || r.Close || len(r.Fields) > 0 {
		t.Error(r)
	}
	x.idd(1)
	x.idd(3)
	x.wantStatus(1, 401, false)
	x.wantStatus(3, 401, false)
	x.wantTokens("1 "+token+" true", "1 "+token+" false")
	// What was handed on ahead of that is done.
	x.finish(1)
	x.wantStatus(4, 500, false)
	x.arrive(4, gets("/x", sid(token)))
	x.wantStatus(4, 401, false)
	if x.opens(5, token) != -1 || x.w.User(4) != 1 {
		t.Error("it ended")
	}
	var tokens []string
	for k := range 8 {
		tokens = append(tokens, x.enter(10+k, 1))
	}
	x.arrive(6, posts("/logout", "", sid(tokens[0])))
	x.conn(6)
	x.enter(20, 1)
	x.idd(6)
	x.wantStatus(6, 401, false)
	x.stands()
}

// StepIdd: a connection that waits for nothing, or for a worker, or that has an
// answer already.
func TestIddOfNothing(t *testing.T) {
	x := all(t, config(t, 2, 0))
	var log string
	still := func(conns ...int) {
		t.Helper()
		for _, conn := range conns {
			x.idd(conn)
			x.idd(conn)
			if now := fmt.Sprint(x.w.Log()); now != log {
				t.Fatal(now, log)
			}
		}
	}
	log = fmt.Sprint(x.w.Log())
	still(0, 1, 30, 63)
	x.arrive(0, gets("/x", sid(x.tokens[0])))
	still(0)
	x.conn(0)
	still(0)
	x.arrive(1, signIn(0, "wa"))
	still(1)
	x.conn(1)
	still(0, 2)
	x.idd(1)
	log = fmt.Sprint(x.w.Log())
	still(1)
	x.conn(1)
	still(1, 0)
	x.finish(0)
	still(0)
	x.wantStatus(0, 500, false)
	still(0)
	x.stands()
}

// A login or logout of a connection that is shut meanwhile is done; nothing goes
// out.
func TestIddOfShut(t *testing.T) {
	x := all(t, config(t, 2, 0))
	x.arrive(0, signIn(0, "wa"))
	x.conn(0)
	x.arrive(1, posts("/logout", "", sid(x.tokens[1])))
	x.conn(1)
	x.shut(0)
	x.shut(1)
	n := len(x.w.Log().Tokens)
	x.idd(0)
	x.idd(1)
	log := x.w.Log().Tokens
	if len(log) != n+2 || !log[n].On || log[n].User != 0 || log[n+1].On || log[n+1].User != 1 {
		t.Error(log)
	}
	if x.conn(0) != "" || x.conn(1) != "" {
		t.Error("it is shut")
	}
	if x.opens(2, log[n].Token) != 0 || x.opens(3, x.tokens[1]) != -1 {
		t.Error("whose they are")
	}
	x.stands()
}

// Logins and logouts close, if their requests do.
func TestIddCloses(t *testing.T) {
	x := made(t, config(t, 1, 0))
	var token string
	for _, text := range []string{posts("/login", "user=a&word=wa", ends), posts("/login", "user=a&word=w", ends), ""} {
		conn := len(x.steps)
		if text == "" {
			text = posts("/logout", "", sid(token), ends)
		}
		x.arrive(conn, text+gets("/x", sid("none")))
		x.conn(conn)
		x.idd(conn)
		out, _ := x.tries(api.Step{Kind: api.StepConn, At: conn})
		if len(out) != 1 || !out[0].Close || out[0].Conn != conn || out[0].Step != x.w.Steps()-1 || !strings.Contains(out[0].Bytes, "connection: close\r\n") {
			t.Fatal(out)
		}
		if log := x.w.Log().Tokens; len(log) > 0 {
			token = log[0].Token
		}
		if x.conn(conn) != "" {
			t.Error("it is closed")
		}
	}
	x.stands()
}

// A login at a connection that is a user's is refused ahead of the identity
// server.
func TestLoginOfOwned(t *testing.T) {
	x := all(t, config(t, 2, 0))
	x.wants(0, "0", who())
	x.arrive(0, signIn(1, "wb")+signIn(0, "wa"))
	for range 2 {
		x.wantStatus(0, 403, false)
		x.idd(0)
	}
	if n := len(x.w.Log().Tokens); n != 2 || x.w.User(0) != 0 {
		t.Error(n)
	}
	x.stands()
}

// Logins go on as they came, in whatever parts their bytes come.
func TestLoginInParts(t *testing.T) {
	text := signIn(1, "wb")
	for cut := range len(text) {
		x := made(t, config(t, 2, 0))
		x.arrive(5, text[:cut])
		x.conn(5)
		x.idd(5)
		x.arrive(5, text[cut:])
		x.conn(5)
		x.idd(5)
		if r := x.parsedReply(x.conn(5)); r.Status != 200 || len(x.w.Log().Tokens) != 1 {
			t.Fatal(cut, r)
		}
	}
}
