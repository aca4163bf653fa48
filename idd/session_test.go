package idd_test

import (
	"cloister/api"
	"slices"
	"strings"
	"testing"
)

// The chapter's words on tokens, by digests that were found by another program.
func TestTokens(t *testing.T) {
	x := made(t, people(2, 0), 7, -5, 0)
	for n, want := range []string{
		// printf '0 7' | sha256sum, then '1 -5', '2 0', '3 0'.
		"60fc7a890e55b4711f3e38a9" + "00000000",
		"9c730fa9649a73b53e59f685" + "00000001",
		"1c9338eb9c4746e1c7c03aa4" + "00000002",
		"bb0c065ba93dfb8ca17e45ba" + "00000003",
	} {
		if got := x.enters(n % 2); got != want {
			t.Errorf("%d: %s; want %s", n, got, want)
		}
	}
	x.stands()
}

// Draws: none, fewer than the logins, as many, more, below 0. R5: their numbers
// are written without anything ahead but a - below 0.
func TestDraws(t *testing.T) {
	for _, numbers := range [][]int{
		nil, {}, {0}, {1}, {-1}, {7, 7, 7, 7}, {0, 0, 0, 0, 0, 0, 0, 0}, {9, 10, 99, 100, 1000000007}, {-9, -10, -99, 5}, {least, greatest, 1 << 31, -1 << 31, 1 << 32},
		{3, 1, 4, 1, 5, 9, 2, 6, 5, 3, 5, 8, 9, 7, 9, 3},
	} {
		x := made(t, people(3, 0), numbers...)
		for n := range 13 {
			draw := 0
			if n < len(numbers) {
				draw = numbers[n]
			}
			if got := x.enters(n % 3); got != tokenOf(n, draw) {
				t.Errorf("%d by %v: %s", n, numbers, got)
			}
		}
		x.stands()
	}
}

// Id3: tokens of unlike users are never the same, whatever is drawn; the login's
// number is told by the last digits.
func TestTokensUnlike(t *testing.T) {
	same := make([]int, 400)
	for i := range same {
		same[i] = 4711
	}
	x := made(t, people(16, 0), same...)
	seen := map[string]bool{}
	for n := range 600 {
		token := x.enters(n * 7 % 16)
		if len(token) != 32 || strings.Trim(token, "0123456789abcdef") != "" || seen[token] {
			t.Fatal(n, token)
		}
		seen[token] = true
	}
	x.stands()
	sessions(t, x)
}

// Id1: whoever has no such name, or another word, is refused.
func TestLogin(t *testing.T) {
	users := []api.User{
		{Name: "ann", Salt: "salt", Digest: salted("salt", "one")},
		{Name: "bob", Salt: "salt", Digest: salted("salt", "two")},
		{Name: "ANN", Salt: "pepper", Digest: salted("pepper", "one")},
		{Name: "an", Salt: "", Digest: salted("", "")},
		{Name: "~", Salt: strings.Repeat("\xff", 32), Digest: salted(strings.Repeat("\xff", 32), "\x00\xff\r\nä")},
		{Name: strings.Repeat("n", 32), Salt: "s", Digest: salted("s", strings.Repeat("w", 100000))},
	}
	words := []string{"one", "two", "one", "", "\x00\xff\r\nä", strings.Repeat("w", 100000)}
	x := made(t, users, 5)
	for round := range 2 {
		for who, u := range users {
			for _, word := range append(words, "One", "one ", " one", "on", "onee", "saltone", "\x04saltone", u.Salt, u.Salt+words[who], u.Digest, strings.Repeat("w", 99999)) {
				if word != words[who] {
					x.wantDenied(u.Name, word)
				}
			}
			for _, name := range []string{"", " ", "a", "ann ", " ann", "annn", "Ann", "bo", "bob\x00", strings.Repeat("n", 31), strings.Repeat("n", 33), "~~", "ä", strings.Repeat("x", 1<<16)} {
				x.wantDenied(name, words[who])
			}
			token, user, e := x.login(u.Name, words[who])
			if user != who || e != api.OK || token == "" {
				t.Errorf("%s: %s, %d, %v", shown(u.Name), token, user, e)
			}
			if n := len(x.d.Tokens(who)); n != round+1 {
				t.Errorf("%s: %d sessions", shown(u.Name), n)
			}
		}
	}
	x.stands()
}

// Id1: a digest that is of another salt is nobody's word.
func TestSaltCounts(t *testing.T) {
	x := made(t, []api.User{{Name: "a", Salt: "x", Digest: salted("y", "word")}, {Name: "b", Salt: "xw", Digest: salted("x", "word")}, {Name: "c", Salt: "xw", Digest: salted("xw", "ord")}})
	for _, word := range []string{"word", "ord", "xword", "wword", ""} {
		x.wantDenied("a", word)
		x.wantDenied("b", word)
		if word != "ord" {
			x.wantDenied("c", word)
		}
	}
	if _, user, e := x.login("c", "ord"); user != 2 || e != api.OK {
		t.Error(user, e)
	}
	x.stands()
}

// Logins that are refused do not count, and end no session.
func TestRefusedLogins(t *testing.T) {
	x := made(t, people(2, 0), 11, 12, 13, 14, 15, 16, 17, 18, 19, 20)
	var tokens []string
	for n := range 8 {
		for range n % 3 {
			x.wantDenied("user0", "word1")
			x.wantDenied("user2", "word0")
			x.wantDenied("", "")
		}
		tokens = append(tokens, x.enters(0))
		if tokens[n] != tokenOf(n, 11+n) {
			t.Errorf("%d: %s", n, tokens[n])
		}
	}
	for range 3 {
		x.wantDenied("user0", "word")
	}
	x.wantTokens(0, tokens...)
	x.wantTokens(1)
	if token := x.enters(1); token != tokenOf(8, 19) {
		t.Error(token)
	}
	x.stands()
}

// Id1: of eight sessions the eldest ends when a ninth begins; others' do not.
func TestNinth(t *testing.T) {
	x := made(t, people(3, 0), 1, 2, 3)
	other := x.enters(1)
	var tokens []string
	for range 8 {
		tokens = append(tokens, x.enters(0))
		x.wantTokens(0, tokens...)
	}
	third := x.enters(2)
	for k := range 20 {
		tokens = append(tokens, x.enters(0))
		x.wantTokens(0, tokens[k+1:]...)
		x.wantNobodys(tokens[:k+1]...)
		x.wantTokens(1, other)
		x.wantTokens(2, third)
	}
	x.stands()
	// One that ended makes room: the next login ends none.
	live := tokens[20:]
	if who, e := x.logout(live[3]); who != 0 || e != api.OK {
		t.Error(who, e)
	}
	live = append(slices.Delete(live, 3, 4), x.enters(0))
	x.wantTokens(0, live...)
	live = append(live[1:], x.enters(0))
	x.wantTokens(0, live...)
	// Each user has eight of its own.
	for range 7 {
		x.enters(1)
		x.enters(2)
	}
	x.wantTokens(0, live...)
	if a, b := x.d.Tokens(1), x.d.Tokens(2); len(a) != 8 || len(b) != 8 || a[0] != other || b[0] != third {
		t.Error(a, b)
	}
	x.stands()
}

// Id1: what is nobody's session is nobody's to end: what never was, what ended,
// what ended since there were too many.
func TestLogout(t *testing.T) {
	x := made(t, people(2, 0), 3)
	x.wantNobodys("", "0", tokenOf(0, 3), strings.Repeat("0", 32), "user0", strings.Repeat("a", 1<<16))
	a, b, c := x.enters(0), x.enters(1), x.enters(0)
	near := []string{
		strings.ToUpper(a), a[:31], a + "0", " " + a, a + " ", a[1:], a[:24], a[24:], a[:24] + b[24:], b[:24] + a[24:], a + b, tokenOf(0, 0), tokenOf(3, 0), tokenOf(-1, 3),
	}
	if near[0] == a {
		t.Fatal("a token without letters:", a)
	}
	x.wantNobodys(near...)
	x.wantTokens(0, a, c)
	x.wantTokens(1, b)
	if who, e := x.logout(b); who != 1 || e != api.OK {
		t.Error(who, e)
	}
	x.wantNobodys(b)
	x.wantTokens(0, a, c)
	x.wantTokens(1)
	if who, e := x.logout(a); who != 0 || e != api.OK {
		t.Error(who, e)
	}
	x.wantNobodys(a, b)
	x.wantTokens(0, c)
	// An ended one does not come again, neither by its login nor by another.
	d, f := x.enters(0), x.enters(1)
	x.wantNobodys(a, b)
	x.wantTokens(0, c, d)
	x.wantTokens(1, f)
	if who, e := x.logout(c); who != 0 || e != api.OK {
		t.Error(who, e)
	}
	x.wantTokens(0, d)
	for range 8 {
		x.enters(0)
	}
	x.wantNobodys(a, b, c, d)
	x.wantTokens(1, f)
	x.stands()
}

// Tokens are told the eldest first, whichever of them ended.
func TestTokensInOrder(t *testing.T) {
	for ends := range 1 << 8 {
		x := made(t, people(2, 0), ends)
		var live []string
		for k := range 8 {
			x.enters(1)
			token := x.enters(0)
			if ends>>k&1 == 1 {
				x.logout(token)
			} else {
				live = append(live, token)
			}
		}
		x.wantTokens(0, live...)
		for k := range 9 {
			live = append(live, x.enters(0))
			live = live[max(0, len(live)-8):]
			x.wantTokens(0, live...)
			if k == 4 {
				x.logout(live[1])
				live = slices.Delete(live, 1, 2)
			}
		}
		x.sees()
	}
}
