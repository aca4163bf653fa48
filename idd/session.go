package idd

import (
	"cloister/api"
	"cloister/sha"
	"cmp"
	"slices"
	"strconv"
)

const tokenDigest = 24

// session is whose it is, and by which login it began.
type session struct {
	who   int
	login int
}

// Login begins a session.
func (d *Idd) Login(name, word string) (token string, user int, e api.Errno) {
	if !d.given() {
		return "", 0, api.ErrArg
	}
	user, ok := d.named(name)
	if !ok || !d.users[user].knows(word) {
		return "", 0, api.ErrDeny
	}
	if old := d.sessionsOf(user); len(old) >= api.MaxTokens {
		delete(d.sessions, old[0])
	}
	token = d.nextToken()
	d.sessions[token] = session{who: user, login: d.logins}
	d.logins++
	return freshText(token), user, api.OK
}

// Logout ends one.
func (d *Idd) Logout(token string) (int, api.Errno) {
	who, e := d.Who(token)
	if e == api.OK {
		delete(d.sessions, token)
	}
	return who, e
}

// Who is whose session a token is.
func (d *Idd) Who(token string) (int, api.Errno) {
	if !d.given() {
		return 0, api.ErrArg
	}
	s, ok := d.sessions[token]
	if !ok {
		return 0, api.ErrNone
	}
	return s.who, api.OK
}

// Tokens are somebody's sessions, the eldest first.
func (d *Idd) Tokens(user int) []string {
	if !d.isUser(user) {
		return nil
	}
	tokens := d.sessionsOf(user)
	for i, token := range tokens {
		tokens[i] = freshText(token)
	}
	return tokens
}

// named is the user of that name.
func (d *Idd) named(name string) (int, bool) {
	who := slices.IndexFunc(d.users, func(a account) bool { return a.name == name })
	return who, who >= 0
}

// knows tells whether the word is the user's.
func (a account) knows(word string) bool {
	digest, e := sha.Salted(a.salt, word)
	return e == api.OK && digest == a.digest
}

// nextToken is that of the login that comes next.
func (d *Idd) nextToken() string {
	n, draw := d.logins, 0
	if n < len(d.draws) {
		draw = d.draws[n]
	}
	digest := sha.Hex(sha.Sum(strconv.Itoa(n) + " " + strconv.Itoa(draw)))
	// The login's number keeps tokens apart, whatever their digests are.
	number := []byte{byte(n >> 24), byte(n >> 16), byte(n >> 8), byte(n)}
	return digest[:tokenDigest] + sha.Hex(string(number))
}

// sessionsOf are the tokens of a user's sessions, the eldest first.
func (d *Idd) sessionsOf(who int) []string {
	var out []string
	for token, s := range d.sessions {
		if s.who == who {
			out = append(out, token)
		}
	}
	slices.SortFunc(out, func(a, b string) int {
		return cmp.Compare(d.sessions[a].login, d.sessions[b].login)
	})
	return out
}
