package idd

import (
	"cloister/api"
	"crypto/sha256"
	"fmt"
	"testing"
	"unsafe"
)

// The number of a login fills all eight digits of its token; so many logins take
// too long, so the count is set just ahead of them.
func TestLateLogins(t *testing.T) {
	digest := fmt.Sprintf("%x", sha256.Sum256([]byte("\x00word")))
	d, e := New([]api.User{{Name: "a", Digest: digest}}, []int{5, 6})
	if e != api.OK {
		t.Fatal(e)
	}
	for _, n := range []int{0, 1, 9, 15, 16, 255, 256, 4095, 65535, 65536, 1<<24 - 1, 1 << 24, 1<<28 - 1, 1 << 30, 1<<31 - 2} {
		draw := 0
		if n < 2 {
			draw = 5 + n
		}
		d.logins = n
		want := fmt.Sprintf("%x%08x", sha256.Sum256(fmt.Appendf(nil, "%d %d", n, draw)), n)
		want = want[:24] + want[64:]
		token, user, e := d.Login("a", "word")
		if token != want || user != 0 || e != api.OK {
			t.Errorf("%d: %s, %d, %v; want %s", n, token, user, e, want)
		}
		if who, e := d.Who(want); who != 0 || e != api.OK {
			t.Error(n, who, e)
		}
	}
	if live := d.Tokens(0); len(live) != 8 {
		t.Error(live)
	}
}

// What ended is kept no longer: a server holds at most eight sessions a user,
// however many began.
func TestEndedSessionsGo(t *testing.T) {
	digest := fmt.Sprintf("%x", sha256.Sum256([]byte("\x00word")))
	d, e := New([]api.User{{Name: "a", Digest: digest}, {Name: "b", Digest: digest}}, nil)
	if e != api.OK {
		t.Fatal(e)
	}
	for range 100 {
		d.Login("a", "word")
		d.Login("b", "word")
	}
	if n := len(d.sessions); n != 16 {
		t.Error(n)
	}
	for _, token := range append(d.Tokens(0), d.Tokens(1)...) {
		d.Logout(token)
	}
	if n := len(d.sessions); n != 0 {
		t.Error(n)
	}
}

// R3, of texts: no token that was handed out lies in what the server keeps.
func TestTokensKeptApart(t *testing.T) {
	digest := fmt.Sprintf("%x", sha256.Sum256([]byte("\x00word")))
	d, e := New([]api.User{{Name: "a", Digest: digest}}, nil)
	if e != api.OK {
		t.Fatal(e)
	}
	var told []string
	for range 8 {
		token, _, _ := d.Login("a", "word")
		told = append(told, token)
	}
	for _, token := range append(told, d.Tokens(0)...) {
		for kept := range d.sessions {
			if unsafe.StringData(kept) == unsafe.StringData(token) {
				t.Error(token)
			}
		}
	}
}
