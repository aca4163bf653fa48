package idd_test

import (
	"cloister/api"
	"cloister/idd"
	"fmt"
	"slices"
	"strings"
	"testing"
)

func TestExample(t *testing.T) {
	for open, want := range [][]int{{2}, {1, 2}} {
		x := made(t, people(2, open))
		x.wantOwn(0, want...)
		x.wantMade(1, 5, 2000)
		x.wantGive(0, 1, 2, 7, api.OK)
		x.wantOwn(1, 2, 4, 2000)
		x.stands()
	}
}

func TestLimits(t *testing.T) {
	if api.MaxUsers != 16 || api.MaxName != 32 || api.MaxTokens != 8 || api.MaxMade != 16 {
		t.Error(api.MaxUsers, api.MaxName, api.MaxTokens, api.MaxMade)
	}
}

// tries holds New against whether users may be.
func tries(t *testing.T, users []api.User, may bool) {
	t.Helper()
	if mayBe(users) != may {
		t.Fatalf("the test is at odds with itself: %v, %s", may, shown(users))
	}
	d, e := idd.New(users, []int{1, 2})
	if !may {
		if d != nil || e != api.ErrUser {
			t.Fatalf("New: %v, %v; of %s", d, e, shown(users))
		}
		return
	}
	if d == nil || e != api.OK {
		t.Fatalf("New: %v; of %s", e, shown(users))
	}
	x := &pair{t: t, d: d, b: tell(users, []int{1, 2})}
	x.sees()
}

// Id1: how many users there may be, and that none has a session at first.
func TestNew(t *testing.T) {
	for n := range 40 {
		users := people(n, 0)
		tries(t, users, n >= 1 && n <= 16)
		if n >= 1 && n <= 16 {
			made(t, users, 4, 5, 6).stands()
		}
	}
	tries(t, people(1000, 0), false)
	tries(t, nil, false)
	tries(t, []api.User{}, false)
	tries(t, people(3, 0)[:0], false)
	tries(t, []api.User{{}}, false)
}

// with are users of whom the one at a place is changed.
func with(n, at int, change func(u *api.User)) []api.User {
	users := people(n, 0)
	change(&users[at])
	return users
}

// each tries users of whom one is changed, wherever it stands.
func each(t *testing.T, may bool, change func(u *api.User)) {
	t.Helper()
	for _, n := range []int{1, 2, 3, 16} {
		for _, at := range []int{0, n / 2, n - 1} {
			tries(t, with(n, at, change), may)
		}
	}
}

// Id1: which names there may be.
func TestNames(t *testing.T) {
	for n := range 70 {
		each(t, n >= 1 && n <= 32, func(u *api.User) { u.Name = strings.Repeat("n", n) })
	}
	each(t, false, func(u *api.User) { u.Name = strings.Repeat("n", 1<<16) })
	for b := range 256 {
		may := b > 32 && b < 127
		for _, at := range []int{0, 1, 15, 31} {
			each(t, may, func(u *api.User) {
				name := []byte(strings.Repeat("n", 32))
				name[at] = byte(b)
				u.Name = string(name)
			})
		}
		each(t, may, func(u *api.User) { u.Name = string([]byte{byte(b)}) })
	}
	for _, name := range []string{"ä", "a b", " a", "a ", "a\n", "\na", "a\x00", "\xff", "日本"} {
		each(t, false, func(u *api.User) { u.Name = name })
	}
}

// Id1: no two users have the same name.
func TestNamesTwice(t *testing.T) {
	for n := 2; n <= 16; n++ {
		for i := range n {
			for k := range n {
				users := people(n, 0)
				users[i].Name = users[k].Name
				tries(t, users, i == k)
			}
		}
	}
	// Names of which one is near another one are two.
	for _, names := range [][]string{
		{"a", "A"}, {"a", "aa"}, {"aa", "a"}, {"ab", "ba"}, {"a", "b", "ab"}, {"0", "00"}, {"1", "01"},
		{strings.Repeat("n", 31), strings.Repeat("n", 32)}, {strings.Repeat("n", 31) + "a", strings.Repeat("n", 31) + "b"},
	} {
		users := people(len(names), 0)
		for who, name := range names {
			users[who].Name = name
		}
		tries(t, users, true)
		x := made(t, users)
		for who := range names {
			x.enters(who)
		}
		x.stands()
	}
}

// Id1: which salts there may be: of any bytes, and the same one twice.
func TestSalts(t *testing.T) {
	for n := range 70 {
		each(t, n <= 32, func(u *api.User) { u.Salt = strings.Repeat("s", n) })
	}
	each(t, false, func(u *api.User) { u.Salt = strings.Repeat("s", 1<<16) })
	each(t, true, func(u *api.User) { u.Salt = strings.Repeat("ä", 16) })
	each(t, false, func(u *api.User) { u.Salt = strings.Repeat("ä", 17) })
	for b := range 256 {
		for _, salt := range []string{string([]byte{byte(b)}), strings.Repeat(string([]byte{byte(b)}), 32)} {
			tries(t, with(3, 1, func(u *api.User) { u.Salt = salt }), true)
			x := made(t, []api.User{{Name: "a", Salt: salt, Digest: salted(salt, wordOf(0))}})
			x.enters(0)
			x.wantDenied("a", salt)
		}
	}
}

// Id1: which digests there may be, and the same one twice.
func TestDigests(t *testing.T) {
	for n := range 140 {
		each(t, n == 64, func(u *api.User) { u.Digest = strings.Repeat("7", n) })
	}
	for b := range 256 {
		may := b >= '0' && b <= '9' || b >= 'a' && b <= 'f'
		for _, at := range []int{0, 1, 31, 62, 63} {
			each(t, may, func(u *api.User) {
				digest := []byte(u.Digest)
				digest[at] = byte(b)
				u.Digest = string(digest)
			})
		}
	}
	whole := salted("s", "word")
	for _, digest := range []string{
		strings.ToUpper(whole), whole[:63], whole + "0", whole + " ", " " + whole, whole[:62], whole + whole, "0x" + whole[:62], whole + "\n", whole[:63] + "\n",
		strings.Repeat("ä", 32), strings.Repeat("Ä", 64), whole[:63] + "G", whole[:63] + "g", "-" + whole[:63],
	} {
		each(t, false, func(u *api.User) { u.Digest = digest })
	}
	same := people(3, 0)
	for who := range same {
		same[who].Salt, same[who].Digest = "s", whole
	}
	tries(t, same, true)
	x := made(t, same)
	for who := range same {
		if _, user, e := x.login(same[who].Name, "word"); user != who || e != api.OK {
			t.Error(who, user, e)
		}
	}
}

// Id1: users of whom one may not be by several reasons at one time.
func TestAllFaults(t *testing.T) {
	for faults := range 1 << 5 {
		has := func(i int) bool { return faults>>i&1 == 1 }
		n := 3
		if has(0) {
			n = 17
		}
		users := people(n, 0)
		if has(1) {
			users[0].Name = ""
		}
		if has(2) {
			users[1].Name = users[2].Name
		}
		if has(3) {
			users[2].Salt = strings.Repeat("s", 33)
		}
		if has(4) {
			users[1].Digest = users[1].Digest[1:]
		}
		tries(t, users, faults == 0)
	}
}

// DOC.md, the chapter's words: what each user owns at first, and in which order
// it was given.
func TestAtFirst(t *testing.T) {
	for open := range 1 << 6 {
		var want [][4]int
		x := made(t, people(6, open))
		for who := range 6 {
			own := []int{2*who + 2}
			want = append(want, [4]int{-1, -1, who, 2*who + 2})
			if open>>who&1 == 1 {
				own = []int{2*who + 1, 2*who + 2}
				want = append(want, [4]int{-1, -1, who, 2*who + 1})
			}
			x.wantOwn(who, own...)
		}
		x.wantGrants(want...)
	}
	x := made(t, people(16, 1<<15))
	x.wantOwn(14, 30)
	x.wantOwn(15, 31, 32)
	x.wantOwn(16)
	x.stands()
}

// Id2: a user's subject has its secrecy, no integrity, and what it owns.
func TestSubject(t *testing.T) {
	x := made(t, people(16, 0xaaaa))
	for who := range 16 {
		s, e := x.d.Subject(who)
		own := []int{2*who + 2}
		if who%2 == 1 {
			own = []int{2*who + 1, 2*who + 2}
		}
		if e != api.OK || !alike(s, api.Subject{Who: who, Label: api.Label{S: []int{2*who + 1}}, Own: own}) {
			t.Errorf("Subject(%d): %v, %v", who, s, e)
		}
	}
	x.wantMade(3, 0, 4000)
	x.wantGive(5, 3, 11, 1, api.OK)
	if s, e := x.d.Subject(3); e != api.OK || !alike(s, api.Subject{Who: 3, Label: api.Label{S: []int{7}}, Own: []int{7, 8, 11, 4000}}) {
		t.Error(s, e)
	}
	for _, who := range []int{least, -17, -1, 16, 17, 1 << 32, greatest} {
		if s, e := x.d.Subject(who); e != api.ErrArg || s.Who != 0 || s.Label.S != nil || s.Label.I != nil || s.Own != nil {
			t.Errorf("Subject(%d): %v, %v", who, s, e)
		}
	}
}

// Id2: users of each number, of servers of each size.
func TestUsers(t *testing.T) {
	for _, n := range []int{1, 2, 15, 16} {
		x := made(t, people(n, 1))
		for _, who := range x.numbers() {
			is := who >= 0 && who < n
			if _, e := x.make(who, 3); (e == api.OK) != is {
				t.Errorf("Make(%d) of %d: %v", who, n, e)
			}
			for _, to := range x.numbers() {
				for _, cat := range []int{2*who + 2, 1, 0, -1} {
					e := x.give(who, to, cat, 4)
					if is = is && to >= 0 && to < n; (e == api.ErrArg) == is {
						t.Errorf("Give(%d, %d, %d) of %d: %v", who, to, cat, n, e)
					}
				}
				is = who >= 0 && who < n
			}
		}
		x.stands()
	}
}

// Id2: 16 categories of each user, and no 17th; what was given by others does
// not count.
func TestMake(t *testing.T) {
	x := made(t, people(16, 0))
	for k := range 20 {
		for who := range 16 {
			step := 100*k - who
			if k < 16 {
				x.wantMade(who, step, 1000*who+1000+k)
				x.wantGive(who, (who+1)%16, 1000*who+1000+k, step, api.OK)
			} else if cat, e := x.make(who, step); cat != 0 || e != api.ErrFull {
				t.Errorf("Make(%d): %d, %v", who, cat, e)
			}
		}
		x.sees()
	}
	for _, who := range []int{-1, 16} {
		if cat, e := x.make(who, 0); cat != 0 || e != api.ErrArg {
			t.Errorf("Make(%d): %d, %v", who, cat, e)
		}
	}
	for who := range 16 {
		if n := len(x.d.Own(who)); n != 1+32 {
			t.Errorf("Own(%d): %d", who, n)
		}
	}
	x.stands()
}

// Id2: one user's categories hang on nobody else's.
func TestMakeApart(t *testing.T) {
	x := made(t, people(3, 0))
	for k := range 16 {
		x.wantMade(1, k, 2000+k)
	}
	for range 3 {
		if cat, e := x.make(1, 9); cat != 0 || e != api.ErrFull {
			t.Error(cat, e)
		}
	}
	x.wantMade(0, 9, 1000)
	x.wantMade(2, 9, 3000)
	x.wantMade(0, 9, 1001)
	x.stands()
}

// Id2: what is given: owned, not owned, owned by both, to oneself.
func TestGive(t *testing.T) {
	x := made(t, people(3, 1)) // the user 0 is open
	first := [][4]int{{-1, -1, 0, 2}, {-1, -1, 0, 1}, {-1, -1, 1, 4}, {-1, -1, 2, 6}}
	x.wantGrants(first...)
	for _, cat := range []int{3, 4, 5, 6, 0, -1, 7, 64, 999, 1000, 2000, lastCat, lastCat + 1, least, greatest} {
		for to := range 3 {
			x.wantGive(0, to, cat, 8, api.ErrNone)
		}
	}
	x.wantGive(1, 0, 3, 8, api.ErrNone) // not open: it does not own its secrecy
	x.wantGive(1, 1, 3, 8, api.ErrNone)
	x.wantGive(1, 0, 1, 8, api.ErrNone) // that of the other one, who owns it already
	x.wantGrants(first...)
	// To oneself nothing is done.
	for _, cat := range []int{1, 2} {
		x.wantGive(0, 0, cat, 8, api.OK)
	}
	x.wantGrants(first...)
	x.wantGive(0, 1, 2, 7, api.OK)
	x.wantGive(0, 1, 2, 8, api.OK) // it owns it already
	x.wantGive(1, 0, 2, 9, api.OK)
	x.wantGive(1, 2, 2, 7, api.OK) // handed on
	x.wantGive(0, 2, 2, 9, api.OK) // that it has from somebody else
	x.wantGive(2, 2, 2, 9, api.OK)
	x.wantGive(0, 2, 1, 3, api.OK)
	x.wantGive(2, 0, 2, 9, api.OK)
	x.wantGive(2, 0, 6, -4, api.OK)
	x.wantGrants(append(first, [4]int{7, 0, 1, 2}, [4]int{7, 1, 2, 2}, [4]int{3, 0, 2, 1}, [4]int{-4, 2, 0, 6})...)
	x.wantOwn(0, 1, 2, 6)
	x.wantOwn(1, 2, 4)
	x.wantOwn(2, 1, 2, 6)
	x.stands()
}

// R2: a user that is none is told ahead of a category that is not owned.
func TestGiveErrors(t *testing.T) {
	x := made(t, people(2, 0))
	for _, cat := range []int{2, 4, 77} {
		x.wantGive(2, 0, cat, 0, api.ErrArg)
		x.wantGive(-1, 1, cat, 0, api.ErrArg)
		x.wantGive(0, 2, cat, 0, api.ErrArg)
		x.wantGive(0, -1, cat, 0, api.ErrArg)
		x.wantGive(2, 2, cat, 0, api.ErrArg)
		x.wantGive(-1, -1, cat, 0, api.ErrArg)
	}
	x.wantGive(0, 1, 77, 0, api.ErrNone)
	x.wantGrants([4]int{-1, -1, 0, 2}, [4]int{-1, -1, 1, 4})
	x.stands()
}

// Id2: each user is given all that there is: more than a label's set may have.
func TestOwnAll(t *testing.T) {
	x := made(t, people(16, 0xffff))
	for k := range 16 {
		for who := range 16 {
			x.wantMade(who, 16*k+who, 1000*who+1000+k)
		}
	}
	var all []int
	for c := 1; c <= 32; c++ {
		all = append(all, c)
	}
	for who := range 16 {
		for k := range 16 {
			all = append(all, 1000*who+1000+k)
		}
	}
	// All go to the last one, the youngest first, and by a ring on from it.
	for _, cat := range slices.Backward(all) {
		from := cat/1000 - 1
		if cat < 1000 {
			from = (cat - 1) / 2
		}
		x.wantGive(from, 15, cat, 300, api.OK)
		for k := range 15 {
			x.wantGive((15+k)%16, k, cat, 301+k, api.OK)
		}
	}
	for who := range 16 {
		x.wantOwn(who, all...)
	}
	if n := len(x.d.Grants()); n != 16*288 {
		t.Error(n)
	}
	x.wantGive(3, 4, 1016, 0, api.ErrNone)
	x.sees()
}

// Grants stand in the order in which they were given, with their steps,
// whatever these are.
func TestGrants(t *testing.T) {
	x := made(t, people(2, 0b10))
	want := [][4]int{{-1, -1, 0, 2}, {-1, -1, 1, 4}, {-1, -1, 1, 3}}
	for k, step := range []int{9, 8, 8, 0, -1, -5, 65536, 1 << 40, least, greatest, 1} {
		x.wantMade(0, step, 1000+k)
		x.wantGive(0, 1, 1000+k, step-1, api.OK)
		x.wantGive(0, 1, 1000+k, step, api.OK)
		want = append(want, [4]int{step, -1, 0, 1000 + k}, [4]int{step - 1, 0, 1, 1000 + k})
		x.wantGrants(want...)
	}
	x.stands()
}

// Id4: by all that was given, in order: who gave something owned it then, or is
// the kernel, which gives nobody another one's; and nothing else is owned.
func chains(t *testing.T, d *idd.Idd, users []api.User) {
	t.Helper()
	own := map[[2]int]bool{}
	for k, g := range d.Grants() {
		first := g.Cat == 2*g.To+2 || g.Cat == 2*g.To+1 && users[g.To].Open
		made := g.Cat >= 1000*g.To+1000 && g.Cat < 1000*g.To+1016
		if own[[2]int{g.To, g.Cat}] || g.From == -1 && !first && !made || g.From != -1 && !own[[2]int{g.From, g.Cat}] {
			t.Fatalf("%v, at %d", g, k)
		}
		own[[2]int{g.To, g.Cat}] = true
	}
	n := 0
	for who := range users {
		for _, cat := range d.Own(who) {
			n++
			if !own[[2]int{who, cat}] {
				t.Fatalf("%d owns %d", who, cat)
			}
		}
	}
	if n != len(own) {
		t.Fatalf("%d were given, %d are owned", len(own), n)
	}
}

// Id3: by the calls alone: a token is somebody's from a login of that user on,
// till it ends.
func sessions(t *testing.T, x *pair) {
	t.Helper()
	whose := map[string]int{}
	for _, l := range x.b.begun {
		if _, twice := whose[l.token]; twice {
			t.Fatal("twice:", l.token)
		}
		whose[l.token] = l.user
	}
	for user := range x.b.users {
		for _, token := range x.d.Tokens(user) {
			if who, there := whose[token]; !there || who != user {
				t.Fatalf("%d has %s", user, token)
			}
		}
	}
}

// Id1 to Id4: logins, logouts and gifts of many users in turns.
func TestDrawn(t *testing.T) {
	for seed := range int64(120) {
		d := draws(seed, 1+int(seed)%16)
		x := made(t, people(d.users, d.Intn(1<<16)), d.numbers()...)
		for k := range 300 {
			d.call(x)
			if k%30 == 0 {
				x.sees()
			}
		}
		x.stands()
		chains(t, x.d, x.b.users)
		sessions(t, x)
	}
}

// R4: servers know nothing of one another, at one time too.
func TestServersApart(t *testing.T) {
	first := made(t, people(3, 5), 1, -2, 3)
	d := draws(1, 3)
	for range 100 {
		d.call(first)
	}
	for k := range int64(8) {
		c := first.copy()
		t.Run(fmt.Sprint(k), func(t *testing.T) {
			t.Parallel()
			c.t = t
			d, x := draws(k/2, 3), made(t, people(3, 3), 4, 5)
			for range 200 {
				d.call(x)
				d.call(c)
			}
			x.stands()
			c.stands()
		})
	}
	first.stands()
}

// R4: the same calls answer the same.
func TestAgain(t *testing.T) {
	for seed := range int64(10) {
		var answers [2]string
		for k := range answers {
			d := draws(seed, 4)
			x := made(t, people(4, 6), d.numbers()...)
			for range 200 {
				d.call(x)
				answers[k] += fmt.Sprint(x.d.Tokens(d.Intn(4)), x.d.Own(d.Intn(4)))
			}
			answers[k] += fmt.Sprint(x.d.Grants())
		}
		if answers[0] != answers[1] {
			t.Error(seed)
		}
	}
}
