package idd_test

import (
	"cloister/api"
	"cloister/idd"
	"slices"
	"strings"
	"testing"
	"unsafe"
)

// R1: servers that New and Copy did not give answer zero values, ErrArg where
// they answer an error, at all arguments.
func TestServersOfNobody(t *testing.T) {
	x := made(t, people(2, 3), 7)
	token := x.enters(0)
	laid := *x.d
	for k, d := range []*idd.Idd{nil, {}, &laid} {
		for _, user := range x.numbers() {
			if l := d.Tokens(user); l != nil {
				t.Error(k, user, l)
			}
			if l := d.Own(user); l != nil {
				t.Error(k, user, l)
			}
			if s, e := d.Subject(user); s.Who != 0 || s.Label.S != nil || s.Label.I != nil || s.Own != nil || e != api.ErrArg {
				t.Error(k, user, s, e)
			}
			if cat, e := d.Make(user, 1); cat != 0 || e != api.ErrArg {
				t.Error(k, user, cat, e)
			}
			for _, cat := range []int{0, 1, 2, 4, 1000} {
				if e := d.Give(user, 1, cat, 1); e != api.ErrArg {
					t.Error(k, user, e)
				}
			}
		}
		for _, word := range []string{"", "word0", "word1", "x"} {
			if token, user, e := d.Login("user0", word); token != "" || user != 0 || e != api.ErrArg {
				t.Error(k, token, user, e)
			}
		}
		for _, text := range []string{"", token, "x"} {
			if who, e := d.Who(text); who != 0 || e != api.ErrArg {
				t.Error(k, who, e)
			}
			if who, e := d.Logout(text); who != 0 || e != api.ErrArg {
				t.Error(k, who, e)
			}
		}
		if l := d.Grants(); l != nil {
			t.Error(k, l)
		}
		if c := d.Copy(); c != nil {
			t.Error(k, c)
		}
	}
	x.stands()
}

// R3: what New was given is neither changed nor kept, and the room behind its
// lists is nobody's.
func TestListsNotKept(t *testing.T) {
	behind := append(people(3, 7), api.User{}, api.User{Name: "user0"})
	users, numbers := behind[:3], []int{7, 8, 9, 10, 11}
	was := slices.Clone(behind)
	d, e := idd.New(users, numbers[:2])
	if e != api.OK || !slices.Equal(behind, was) || !slices.Equal(numbers, []int{7, 8, 9, 10, 11}) {
		t.Fatal(e, behind, numbers)
	}
	x := &pair{t: t, d: d, b: tell(was[:3], []int{7, 8})}
	x.sees()
	for i := range behind {
		behind[i] = api.User{Name: "other", Digest: salted("", "other"), Open: i%2 == 0}
	}
	for i := range numbers {
		numbers[i] = -1
	}
	x.wantDenied("other", "other")
	for n := range 4 {
		draw := []int{7, 8, 0, 0}[n]
		if got := x.enters(n % 3); got != tokenOf(n, draw) {
			t.Error(n, got)
		}
	}
	x.stands()
	numbers[2] = 5
	for i := range behind {
		if behind[i].Name != "other" {
			t.Error(behind[i])
		}
	}
	if d, e := idd.New(was[:4], nil); d != nil || e != api.ErrUser {
		t.Error(d, e)
	}
}

// spoil changes all that a list has, and the room behind it.
func spoil[T any](l []T, by T) {
	for i := range l[:cap(l)] {
		l[:cap(l)][i] = by
	}
}

// R3: lists that were handed out are nobody else's: changed afterwards, with
// the room behind them, they change nothing.
func TestAnswersAreNew(t *testing.T) {
	for seed := range int64(30) {
		d := draws(seed, 3)
		x := made(t, people(3, d.Intn(8)), d.numbers()...)
		for range 60 {
			d.call(x)
			all := []*pair{x, x.copy()}
			for _, one := range all {
				for who := range 3 {
					spoil(one.d.Tokens(who), "spoilt")
					spoil(one.d.Own(who), -7)
					s, _ := one.d.Subject(who)
					spoil(s.Label.S, -7)
					spoil(s.Label.I, -7)
					if own, _ := one.b.subject(who); !slices.Equal(s.Own, own.Own) {
						t.Fatal("a subject's lists share memory:", s)
					}
					spoil(s.Own, -7)
				}
				spoil(one.d.Grants(), api.Grant{Cat: -7})
			}
			for _, one := range all {
				one.sees()
			}
		}
		x.stands()
	}
}

// R3: of two answers of the same call neither changes the other.
func TestAnswersApart(t *testing.T) {
	x := made(t, people(2, 3))
	x.enters(0)
	x.wantMade(0, 1, 1000)
	tokens, own, grants := x.d.Tokens(0), x.d.Own(0), x.d.Grants()
	s, _ := x.d.Subject(0)
	wereTokens, wereOwn, wereGrants := slices.Clone(tokens), slices.Clone(own), slices.Clone(grants)
	spoil(x.d.Tokens(0), "")
	spoil(x.d.Own(0), 0)
	spoil(x.d.Grants(), api.Grant{})
	other, _ := x.d.Subject(0)
	spoil(other.Own, 0)
	spoil(other.Label.S, 0)
	x.enters(0)
	x.wantMade(0, 2, 1001)
	x.wantGive(0, 1, 2, 3, api.OK)
	if !slices.Equal(tokens, wereTokens) || !slices.Equal(own, wereOwn) || !slices.Equal(grants, wereGrants) {
		t.Error(tokens, own, grants)
	}
	if !alike(s, api.Subject{Label: api.Label{S: []int{1}}, Own: []int{1, 2, 1000}}) {
		t.Error(s)
	}
	x.stands()
}

// overlaps tells whether two texts share memory.
func overlaps(a, b string) bool {
	p, q := uintptr(unsafe.Pointer(unsafe.StringData(a))), uintptr(unsafe.Pointer(unsafe.StringData(b)))
	return p < q+uintptr(len(b)) && q < p+uintptr(len(a))
}

// R3, of texts: the bytes behind those that were handed in are changed
// afterwards; the server is what it was.
func TestTextsNotKept(t *testing.T) {
	var all [][]byte
	lent := func(s string) string {
		bytes := []byte(s)
		all = append(all, bytes)
		return unsafe.String(unsafe.SliceData(bytes), len(bytes))
	}
	users := people(3, 0)
	handed := slices.Clone(users)
	for i, u := range handed {
		handed[i] = api.User{Name: lent(u.Name), Salt: lent(u.Salt), Digest: lent(u.Digest)}
	}
	d, e := idd.New(handed, []int{4})
	if e != api.OK {
		t.Fatal(e)
	}
	x := &pair{t: t, d: d, b: tell(users, []int{4})}
	token, user, e := d.Login(lent("user1"), lent("word1"))
	if want, _, _ := x.b.login("user1", "word1"); token != want || user != 1 || e != api.OK {
		t.Fatal(token, user, e)
	}
	if who, e := d.Who(lent(token)); who != 1 || e != api.OK {
		t.Error(who, e)
	}
	c := x.copy()
	for _, bytes := range all {
		spoil(bytes, '!')
	}
	x.stands()
	c.stands()
	x.enters(2)
	c.enters(0)
}

// R3, of texts: tokens are new each time that they are told, by a copy too.
func TestTextsAreNew(t *testing.T) {
	x := made(t, people(2, 0), 4)
	texts := []string{x.enters(0), x.enters(0), x.enters(1)}
	for _, one := range []*pair{x, x.copy(), x, x.copy().copy()} {
		for who := range 2 {
			texts = append(texts, one.d.Tokens(who)...)
		}
	}
	for i, a := range texts {
		for k, b := range texts[:i] {
			if overlaps(a, b) {
				t.Error(i, k)
			}
		}
	}
	x.stands()
}

// R3: nil and the empty list are the same.
func TestNilAndEmpty(t *testing.T) {
	for _, numbers := range [][]int{nil, {}, []int{9, 9}[:0]} {
		x := made(t, people(1, 0), numbers...)
		if token := x.enters(0); token != tokenOf(0, 0) {
			t.Error(token)
		}
		x.stands()
	}
}

// R4: a copy stands as the server does: with its users, its sessions, the number
// of the next login, what was made and what was given; each goes its own way.
func TestCopy(t *testing.T) {
	x := made(t, people(2, 1), 1, 2, 3, 4, 5)
	a := x.enters(0)
	b := x.enters(1)
	for k := range 15 {
		x.wantMade(0, k, 1000+k)
	}
	x.wantGive(0, 1, 1000, 20, api.OK)
	c := x.copy()
	c.sees()
	// Each of these is seen by one of both alone.
	x.logout(a)
	c.logout(b)
	x.wantTokens(1, b)
	c.wantTokens(0, a)
	x.wantNobodys(a)
	c.wantNobodys(b)
	x.wantMade(0, 30, 1015)
	c.wantMade(1, 31, 2000)
	c.wantMade(0, 32, 1015)
	if cat, e := c.make(0, 33); cat != 0 || e != api.ErrFull {
		t.Error(cat, e)
	}
	x.wantGive(0, 1, 1, 34, api.OK)
	c.wantGive(1, 0, 4, 35, api.OK)
	x.wantOwn(1, 1, 4, 1000)
	c.wantOwn(1, 4, 1000, 2000)
	if p, q := x.enters(0), c.enters(0); p != tokenOf(2, 3) || q != p {
		t.Error(p, q)
	}
	d := c.copy()
	for range 9 {
		c.enters(0)
	}
	d.sees()
	x.stands()
	c.stands()
	d.stands()
}

// R4: copies and copies of these, each changed behind the others' backs.
func TestCopiesDrawn(t *testing.T) {
	for seed := range int64(30) {
		d := draws(seed, 3)
		all := []*pair{made(t, people(3, d.Intn(8)), d.numbers()...)}
		for range 6 {
			for range 60 {
				d.call(all[d.Intn(len(all))])
			}
			all = append(all, all[d.Intn(len(all))].copy())
			for _, one := range all {
				one.sees()
			}
		}
		for _, one := range all {
			one.stands()
		}
	}
}

// A server keeps its texts by itself: names of which one is a part of another
// one's bytes.
func TestTextsWithin(t *testing.T) {
	long := strings.Repeat("abcdefgh", 4)
	users := people(3, 0)
	users[0].Name, users[1].Name, users[2].Name = long, long[:8], long[1:9]
	x := made(t, users)
	for who := range users {
		x.enters(who)
	}
	x.stands()
}
