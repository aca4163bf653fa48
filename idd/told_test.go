package idd_test

import (
	"cloister/api"
	"cloister/idd"
	"crypto/sha256"
	"fmt"
	"maps"
	"math"
	"math/rand"
	"regexp"
	"slices"
	"strings"
	"testing"
)

const (
	least    = math.MinInt
	greatest = math.MaxInt
	lastCat  = 2147483647
)

// told is an identity server as the document tells of it, another way than the
// program does: all sessions that ever began stand in one list, in the order of
// their logins, and what somebody owns is found among all that was given.
type told struct {
	users  []api.User
	draws  []int
	begun  []login
	made   []int
	grants []api.Grant
}

type login struct {
	token string
	user  int
	ended bool
}

var (
	nameForm   = regexp.MustCompile(`^[!-~]{1,32}$`)
	digestForm = regexp.MustCompile(`^[0-9a-f]{64}$`)
)

// mayBe tells whether users may be.
func mayBe(users []api.User) bool {
	names := map[string]bool{}
	for _, u := range users {
		if !nameForm.MatchString(u.Name) || !digestForm.MatchString(u.Digest) || len(u.Salt) > 32 {
			return false
		}
		names[u.Name] = true
	}
	return len(users) > 0 && len(users) < 17 && len(names) == len(users)
}

func tell(users []api.User, draws []int) *told {
	b := &told{users: slices.Clone(users), draws: slices.Clone(draws), made: make([]int, len(users))}
	for who, u := range users {
		b.grants = append(b.grants, api.Grant{Step: -1, From: -1, To: who, Cat: who*2 + 2})
		if u.Open {
			b.grants = append(b.grants, api.Grant{Step: -1, From: -1, To: who, Cat: who*2 + 1})
		}
	}
	return b
}

func (b *told) copy() *told {
	return &told{b.users, b.draws, slices.Clone(b.begun), slices.Clone(b.made), slices.Clone(b.grants)}
}

func (b *told) is(who int) bool { return 0 <= who && who <= len(b.users)-1 }

// salted is the digest of a word.
func salted(salt, word string) string {
	return fmt.Sprintf("%x", sha256.Sum256(append([]byte{byte(len(salt))}, salt+word...)))
}

// tokenOf is the token of a login by its number and its draw.
func tokenOf(n, draw int) string {
	digest := sha256.Sum256(fmt.Appendf(nil, "%d %d", n, draw))
	return fmt.Sprintf("%x%08x", digest[:12], n)
}

func (b *told) next() string {
	n := len(b.begun)
	if n < len(b.draws) {
		return tokenOf(n, b.draws[n])
	}
	return tokenOf(n, 0)
}

func (b *told) login(name, word string) (string, int, api.Errno) {
	for who, u := range b.users {
		if u.Name != name || u.Digest != salted(u.Salt, word) {
			continue
		}
		if now := b.tokens(who); len(now) == 8 {
			b.logout(now[0])
		}
		token := b.next()
		b.begun = append(b.begun, login{token: token, user: who})
		return token, who, api.OK
	}
	return "", 0, api.ErrDeny
}

func (b *told) at(token string) int {
	return slices.IndexFunc(b.begun, func(l login) bool { return l.token == token && !l.ended })
}

func (b *told) who(token string) (int, api.Errno) {
	if k := b.at(token); k >= 0 {
		return b.begun[k].user, api.OK
	}
	return 0, api.ErrNone
}

func (b *told) logout(token string) (int, api.Errno) {
	who, e := b.who(token)
	if e == api.OK {
		b.begun[b.at(token)].ended = true
	}
	return who, e
}

func (b *told) tokens(user int) []string {
	var out []string
	for _, l := range b.begun {
		if l.user == user && !l.ended {
			out = append(out, l.token)
		}
	}
	return out
}

func (b *told) own(user int) []int {
	cats := map[int]bool{}
	for _, g := range b.grants {
		if g.To == user {
			cats[g.Cat] = true
		}
	}
	return slices.Sorted(maps.Keys(cats))
}

func (b *told) subject(user int) (api.Subject, api.Errno) {
	if !b.is(user) {
		return api.Subject{}, api.ErrArg
	}
	return api.Subject{Who: user, Label: api.Label{S: []int{user + user + 1}}, Own: b.own(user)}, api.OK
}

func (b *told) make(user, step int) (int, api.Errno) {
	if !b.is(user) {
		return 0, api.ErrArg
	}
	if b.made[user] == 16 {
		return 0, api.ErrFull
	}
	cat := user*1000 + 1000 + b.made[user]
	b.made[user]++
	b.grants = append(b.grants, api.Grant{Step: step, From: -1, To: user, Cat: cat})
	return cat, api.OK
}

func (b *told) give(from, to, cat, step int) api.Errno {
	switch {
	case !b.is(from), !b.is(to):
		return api.ErrArg
	case !slices.Contains(b.own(from), cat):
		return api.ErrNone
	case !slices.Contains(b.own(to), cat):
		b.grants = append(b.grants, api.Grant{Step: step, From: from, To: to, Cat: cat})
	}
	return api.OK
}

// pair is an identity server, and what is told of it.
type pair struct {
	t *testing.T
	d *idd.Idd
	b *told
}

// wordOf is a user's word.
func wordOf(who int) string { return fmt.Sprint("word", who) }

// people are users with words of wordOf; those whose bits are set are open.
func people(n, open int) []api.User {
	var out []api.User
	for who := range n {
		salt := strings.Repeat("s", 2*who)
		out = append(out, api.User{Name: fmt.Sprint("user", who), Salt: salt, Digest: salted(salt, wordOf(who)), Open: open>>who&1 == 1})
	}
	return out
}

func made(t *testing.T, users []api.User, draws ...int) *pair {
	t.Helper()
	d, e := idd.New(users, draws)
	if d == nil || e != api.OK {
		t.Fatalf("New(%s): %v", shown(users), e)
	}
	return &pair{t: t, d: d, b: tell(users, draws)}
}

func (x *pair) copy() *pair {
	return &pair{t: x.t, d: x.d.Copy(), b: x.b.copy()}
}

// shown is what tells of a call, with long texts and lists cut.
func shown(v any) string {
	s := fmt.Sprintf("%+v", v)
	if len(s) > 300 {
		s = s[:300] + ".."
	}
	return s
}

func (x *pair) login(name, word string) (string, int, api.Errno) {
	x.t.Helper()
	want, wantUser, wantE := x.b.login(name, word)
	got, user, e := x.d.Login(name, word)
	if got != want || user != wantUser || e != wantE {
		x.t.Fatalf("Login(%s, %s): %s, %d, %v; want %s, %d, %v", shown(name), shown(word), got, user, e, want, wantUser, wantE)
	}
	return got, user, e
}

func (x *pair) logout(token string) (int, api.Errno) {
	x.t.Helper()
	want, wantE := x.b.logout(token)
	got, e := x.d.Logout(token)
	if got != want || e != wantE {
		x.t.Fatalf("Logout(%s): %d, %v; want %d, %v", shown(token), got, e, want, wantE)
	}
	return got, e
}

func (x *pair) who(token string) (int, api.Errno) {
	x.t.Helper()
	want, wantE := x.b.who(token)
	got, e := x.d.Who(token)
	if got != want || e != wantE {
		x.t.Fatalf("Who(%s): %d, %v; want %d, %v", shown(token), got, e, want, wantE)
	}
	return got, e
}

func (x *pair) make(user, step int) (int, api.Errno) {
	x.t.Helper()
	want, wantE := x.b.make(user, step)
	got, e := x.d.Make(user, step)
	if got != want || e != wantE {
		x.t.Fatalf("Make(%d, %d): %d, %v; want %d, %v", user, step, got, e, want, wantE)
	}
	return got, e
}

func (x *pair) give(from, to, cat, step int) api.Errno {
	x.t.Helper()
	want := x.b.give(from, to, cat, step)
	e := x.d.Give(from, to, cat, step)
	if e != want {
		x.t.Fatalf("Give(%d, %d, %d, %d): %v; want %v", from, to, cat, step, e, want)
	}
	return e
}

// numbers are those of all users, and of no user.
func (x *pair) numbers() []int {
	out := []int{least, -1 << 32, -16, -2, -1, len(x.b.users), len(x.b.users) + 1, 16, 17, 1 << 32, 1<<32 + 1, greatest}
	for who := range x.b.users {
		out = append(out, who)
	}
	return out
}

// sees holds all that is told without a change against what it should be.
func (x *pair) sees() {
	x.t.Helper()
	for _, user := range x.numbers() {
		if got, want := x.d.Tokens(user), x.b.tokens(user); !slices.Equal(got, want) {
			x.t.Fatalf("Tokens(%d): %s; want %s", user, shown(got), shown(want))
		}
		if got, want := x.d.Own(user), x.b.own(user); !slices.Equal(got, want) {
			x.t.Fatalf("Own(%d): %s; want %s", user, shown(got), shown(want))
		}
		got, e := x.d.Subject(user)
		want, wantE := x.b.subject(user)
		if e != wantE || !alike(got, want) {
			x.t.Fatalf("Subject(%d): %s, %v; want %s, %v", user, shown(got), e, shown(want), wantE)
		}
	}
	for _, l := range x.b.begun[max(0, len(x.b.begun)-200):] {
		x.who(l.token)
	}
	x.who(x.b.next())
	if got := x.d.Grants(); !slices.Equal(got, x.b.grants) {
		x.t.Fatalf("Grants: %s; want %s", shown(got), shown(x.b.grants))
	}
}

func alike(a, b api.Subject) bool {
	return a.Who == b.Who && slices.Equal(a.Label.S, b.Label.S) && slices.Equal(a.Label.I, b.Label.I) && slices.Equal(a.Own, b.Own)
}

// stands holds also what comes next against it, by a copy that goes on.
func (x *pair) stands() {
	x.t.Helper()
	x.sees()
	c := x.copy()
	for _, l := range c.b.begun {
		if !l.ended && l.user%2 == 1 {
			c.logout(l.token)
		}
	}
	for who, u := range c.b.users {
		c.login(u.Name, wordOf(who))
		c.make(who, 5)
		for cat := range 40 {
			c.give(who, (who+1)%len(c.b.users), cat, 6)
		}
	}
	c.sees()
	x.sees()
}

// enters begins a session of a user by its word.
func (x *pair) enters(who int) string {
	x.t.Helper()
	token, user, e := x.login(x.b.users[who].Name, wordOf(who))
	if user != who || e != api.OK {
		x.t.Fatalf("Login of %d: %d, %v", who, user, e)
	}
	return token
}

// wantDenied holds that nobody may log in by that, and nothing changes.
func (x *pair) wantDenied(name, word string) {
	x.t.Helper()
	if token, user, e := x.login(name, word); token != "" || user != 0 || e != api.ErrDeny {
		x.t.Fatalf("Login(%s, %s): %s, %d, %v", shown(name), shown(word), token, user, e)
	}
}

// wantNobodys holds that a token is nobody's session.
func (x *pair) wantNobodys(tokens ...string) {
	x.t.Helper()
	for _, token := range tokens {
		if who, e := x.who(token); who != 0 || e != api.ErrNone {
			x.t.Fatalf("Who(%s): %d, %v", shown(token), who, e)
		}
		if who, e := x.logout(token); who != 0 || e != api.ErrNone {
			x.t.Fatalf("Logout(%s): %d, %v", shown(token), who, e)
		}
	}
}

// wantTokens holds that a user's sessions are those.
func (x *pair) wantTokens(user int, want ...string) {
	x.t.Helper()
	if got := x.d.Tokens(user); !slices.Equal(got, want) {
		x.t.Fatalf("Tokens(%d): %s; want %s", user, shown(got), shown(want))
	}
	for _, token := range want {
		if who, e := x.who(token); who != user || e != api.OK {
			x.t.Fatalf("Who(%s): %d, %v; want %d", token, who, e, user)
		}
	}
}

func (x *pair) wantMade(user, step, want int) {
	x.t.Helper()
	if cat, e := x.make(user, step); cat != want || e != api.OK {
		x.t.Fatalf("Make(%d, %d): %d, %v; want %d", user, step, cat, e, want)
	}
}

func (x *pair) wantGive(from, to, cat, step int, want api.Errno) {
	x.t.Helper()
	if e := x.give(from, to, cat, step); e != want {
		x.t.Fatalf("Give(%d, %d, %d, %d): %v; want %v", from, to, cat, step, e, want)
	}
}

// wantOwn holds that a user owns that.
func (x *pair) wantOwn(user int, want ...int) {
	x.t.Helper()
	if got := x.d.Own(user); !slices.Equal(got, want) {
		x.t.Fatalf("Own(%d): %s; want %s", user, shown(got), shown(want))
	}
}

// wantGrants holds that this was given: step, from, to, category of each.
func (x *pair) wantGrants(want ...[4]int) {
	x.t.Helper()
	var all []api.Grant
	for _, g := range want {
		all = append(all, api.Grant{Step: g[0], From: g[1], To: g[2], Cat: g[3]})
	}
	if got := x.d.Grants(); !slices.Equal(got, all) {
		x.t.Fatalf("Grants: %v; want %v", got, all)
	}
}

// draw is what is drawn by a seed.
type draw struct {
	*rand.Rand
	users int
}

func draws(seed int64, users int) *draw {
	return &draw{rand.New(rand.NewSource(seed)), users}
}

// numbers are some draws for the logins, of either sign.
func (d *draw) numbers() []int {
	var out []int
	for range d.Intn(60) {
		out = append(out, int(d.Uint64()>>d.Intn(64)))
	}
	return out
}

// user is one, but seldom none.
func (d *draw) user() int {
	if d.Intn(40) == 0 {
		return []int{-1, d.users, d.users + 1, least, greatest}[d.Intn(5)]
	}
	return d.Intn(d.users)
}

// token is one that began once, but seldom another text.
func (d *draw) token(b *told) string {
	if len(b.begun) == 0 || d.Intn(20) == 0 {
		return []string{"", b.next(), strings.Repeat("0", 32)}[d.Intn(3)]
	}
	// Most of the youngest ones have not ended.
	return b.begun[max(0, len(b.begun)-1-d.Intn(12*d.users))].token
}

// cat is one that somebody owns, but seldom another one.
func (d *draw) cat(b *told) int {
	if d.Intn(20) == 0 {
		return []int{0, -1, 1, 40, 999, 1015, 1016, lastCat, least, greatest}[d.Intn(10)]
	}
	return b.grants[d.Intn(len(b.grants))].Cat
}

// call does one call.
func (d *draw) call(x *pair) {
	x.t.Helper()
	switch n := d.Intn(12); {
	case n < 4:
		who, word := d.Intn(d.users), d.Intn(d.users)
		if d.Intn(5) > 0 {
			word = who
		}
		x.login(x.b.users[who].Name, wordOf(word))
	case n < 6:
		x.logout(d.token(x.b))
	case n < 7:
		x.who(d.token(x.b))
	case n < 8:
		x.make(d.user(), d.Intn(100)-5)
	default:
		x.give(d.user(), d.user(), d.cat(x.b), d.Intn(100)-5)
	}
}
