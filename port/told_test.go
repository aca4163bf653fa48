package port_test

import (
	"cloister/api"
	"cloister/port"
	"fmt"
	"math"
	"math/rand"
	"slices"
	"strings"
	"testing"
)

const (
	least    = math.MinInt
	greatest = math.MaxInt
	lastCat  = 2147483647
)

// told is mailboxes as the document tells of them, another way than the program
// does: all messages that wait stand in one list, and what a message lacks is
// found category by category.
type told struct {
	users, room int
	waits       []letter
}

type letter struct {
	to int
	m  api.Message
}

func (b *told) copy() *told {
	return &told{users: b.users, room: b.room, waits: slices.Clone(b.waits)}
}

func (b *told) is(who int) bool { return 0 <= who && who <= b.users-1 }

// rising tells whether a list is a set of categories.
func rising(l []int) bool {
	for i, c := range l {
		for _, ahead := range l[:i] {
			if ahead >= c {
				return false
			}
		}
		if c < 1 || c > lastCat {
			return false
		}
	}
	return true
}

// lacking is what a message lacks.
func lacking(x api.Subject, to int) []int {
	var out []int
	for _, c := range x.Label.S {
		if c-1 != to*2 {
			out = append(out, c)
		}
	}
	return out
}

func (b *told) send(x api.Subject, to int, text string, open bool) ([]int, api.Errno) {
	if !b.is(x.Who) || !b.is(to) || !rising(x.Own) {
		return nil, api.ErrArg
	}
	if !rising(x.Label.S) || !rising(x.Label.I) || len(x.Label.S) > 64 || len(x.Label.I) > 64 {
		return nil, api.ErrLabel
	}
	if len(text) > 1024 {
		return nil, api.ErrLong
	}
	lacks := lacking(x, to)
	for _, c := range lacks {
		if !open || !slices.Contains(x.Own, c) {
			return nil, api.OK
		}
	}
	if b.len(to) < b.room {
		b.waits = append(b.waits, letter{to, api.Message{From: x.Who, Text: text}})
	}
	return lacks, api.OK
}

func (b *told) take(who int) (api.Message, bool) {
	for i, l := range b.waits {
		if l.to == who {
			b.waits = slices.Delete(slices.Clone(b.waits), i, i+1)
			return l.m, true
		}
	}
	return api.Message{}, false
}

func (b *told) len(who int) int { return len(b.of(who)) }

// of are the messages that wait for somebody.
func (b *told) of(who int) []api.Message {
	var out []api.Message
	for _, l := range b.waits {
		if l.to == who {
			out = append(out, l.m)
		}
	}
	return out
}

// pair is mailboxes, and what is told of them.
type pair struct {
	t *testing.T
	p *port.Ports
	b *told
}

func made(t *testing.T, users, room int) *pair {
	t.Helper()
	p, e := port.New(users, room)
	if p == nil || e != api.OK {
		t.Fatalf("New(%d, %d): %v", users, room, e)
	}
	return &pair{t: t, p: p, b: &told{users: users, room: room}}
}

func (x *pair) copy() *pair {
	return &pair{t: x.t, p: x.p.Copy(), b: x.b.copy()}
}

// shown is what tells of a call, with long texts and lists cut.
func shown(v any) string {
	s := fmt.Sprintf("%+v", v)
	if len(s) > 300 {
		s = s[:300] + ".."
	}
	return s
}

func (x *pair) send(s api.Subject, to int, text string, open bool) ([]int, api.Errno) {
	x.t.Helper()
	want, wantE := x.b.send(s, to, text, open)
	got, e := x.p.Send(s, to, text, open)
	if !slices.Equal(got, want) || e != wantE {
		x.t.Fatalf("Send(%s, %d, %d bytes, %v): %s, %v; want %s, %v", shown(s), to, len(text), open, shown(got), e, shown(want), wantE)
	}
	return got, e
}

func (x *pair) take(who int) (api.Message, bool) {
	x.t.Helper()
	want, wantOk := x.b.take(who)
	got, ok := x.p.Take(who)
	if got != want || ok != wantOk {
		x.t.Fatalf("Take(%d): %s, %v; want %s, %v", who, shown(got), ok, shown(want), wantOk)
	}
	return got, ok
}

// lens holds Len against what is told.
func (x *pair) lens() {
	x.t.Helper()
	for _, who := range []int{least, -16, -2, -1, x.b.users, x.b.users + 1, 16, 17, 1 << 32, greatest} {
		if n := x.p.Len(who); n != x.b.len(who) {
			x.t.Fatalf("Len(%d): %d; want %d", who, n, x.b.len(who))
		}
	}
	for who := range x.b.users {
		if n := x.p.Len(who); n != x.b.len(who) {
			x.t.Fatalf("Len(%d): %d; want %d", who, n, x.b.len(who))
		}
	}
}

// stands holds all that waits against what is told, by a copy that is emptied.
func (x *pair) stands() {
	x.t.Helper()
	x.lens()
	c := x.copy()
	c.empty()
	x.lens()
}

// empty takes all out.
func (x *pair) empty() {
	x.t.Helper()
	for who := range x.b.users {
		for x.b.len(who) > 0 {
			x.take(who)
		}
		x.take(who)
	}
	x.lens()
}

// wantSend holds a call against what it should tell by a test's own words.
func (x *pair) wantSend(s api.Subject, to int, text string, open bool, want ...int) {
	x.t.Helper()
	if got, e := x.send(s, to, text, open); !slices.Equal(got, want) || e != api.OK {
		x.t.Fatalf("Send(%s, %d, %d bytes, %v): %s, %v; want %s", shown(s), to, len(text), open, shown(got), e, shown(want))
	}
}

// wantRefused likewise; nothing has changed.
func (x *pair) wantRefused(s api.Subject, to int, text string, want api.Errno) {
	x.t.Helper()
	for _, open := range []bool{false, true} {
		if got, e := x.send(s, to, text, open); got != nil || e != want {
			x.t.Fatalf("Send(%s, %d, %d bytes, %v): %s, %v; want %v", shown(s), to, len(text), open, shown(got), e, want)
		}
	}
	x.stands()
}

// wantTake takes out a message of that sender and text.
func (x *pair) wantTake(who, from int, text string) {
	x.t.Helper()
	if m, ok := x.take(who); m.From != from || m.Text != text || !ok {
		x.t.Fatalf("Take(%d): %s, %v; want %d, %s", who, shown(m), ok, from, shown(text))
	}
}

func (x *pair) wantNone(who int) {
	x.t.Helper()
	if m, ok := x.take(who); m != (api.Message{}) || ok {
		x.t.Fatalf("Take(%d): %s, %v; want none", who, shown(m), ok)
	}
}

// wantLens are how many wait for each user.
func (x *pair) wantLens(want ...int) {
	x.t.Helper()
	for who, n := range want {
		if got := x.p.Len(who); got != n {
			x.t.Fatalf("Len(%d): %d; want %d", who, got, n)
		}
	}
	x.lens()
}

// from is a subject of a secrecy that owns some categories.
func from(who int, s []int, own ...int) api.Subject {
	return api.Subject{Who: who, Label: api.Label{S: s}, Own: own}
}

// upTo is the set of the first n categories.
func upTo(n int) []int {
	var out []int
	for c := range n {
		out = append(out, c+1)
	}
	return out
}

// bits is the set of the categories c for which bit c-1 is set.
func bits(n int) []int {
	var out []int
	for c := 1; n>>(c-1) > 0; c++ {
		if n>>(c-1)&1 == 1 {
			out = append(out, c)
		}
	}
	return out
}

// badSets are lists that are no sets of categories.
func badSets() [][]int {
	return [][]int{
		{0}, {-1}, {0, 1}, {-1, 1}, {1, 0}, {1, 1}, {3, 1}, {1, 3, 2}, {1, 2, 2}, {3, 1, 2}, {lastCat + 1}, {1, lastCat + 1}, {least}, {greatest},
		{1, greatest}, {1, least}, append(upTo(64), 64), append(upTo(64), 0), append(upTo(200), 200), append(upTo(200), lastCat+1),
	}
}

// goodSets are sets of categories that a label may have.
func goodSets() [][]int {
	return [][]int{nil, {}, {1}, {2}, {3}, {1, 3}, {lastCat}, {1, lastCat}, {lastCat - 1, lastCat}, upTo(63), upTo(64), append(upTo(63), lastCat)}
}

// draw is what is drawn by a seed.
type draw struct {
	*rand.Rand
	users int
}

func draws(seed int64, users int) *draw {
	return &draw{rand.New(rand.NewSource(seed)), users}
}

// set is a small set, of few categories, so that often much is lacking and owned.
func (d *draw) set(most int) []int {
	var out []int
	for c := 1; c <= 2*d.users+2; c++ {
		if d.Intn(2*d.users+2) < most {
			out = append(out, c)
		}
	}
	return out
}

// subject is one that may be, but seldom not.
func (d *draw) subject() api.Subject {
	x := api.Subject{Who: d.Intn(d.users), Label: api.Label{S: d.set(1 + d.Intn(2)), I: d.set(1)}, Own: d.set(d.Intn(2*d.users + 3))}
	switch d.Intn(40) {
	case 0:
		x.Who = []int{-1, d.users}[d.Intn(2)]
	case 1:
		x.Own = badSets()[d.Intn(len(badSets()))]
	case 2:
		x.Label.S = badSets()[d.Intn(len(badSets()))]
	case 3:
		x.Label.I = upTo(65)
	case 4, 5:
		x.Own = append(upTo(70), lastCat)
	}
	return x
}

func (d *draw) to() int {
	if d.Intn(30) == 0 {
		return []int{-1, d.users, d.users + 1}[d.Intn(3)]
	}
	return d.Intn(d.users)
}

func (d *draw) text() string {
	switch d.Intn(30) {
	case 0:
		return strings.Repeat("l", 1025)
	case 1:
		return strings.Repeat("m", 1024)
	case 2:
		return ""
	}
	return fmt.Sprintf("text %d", d.Intn(100000))
}

// call does one call.
func (d *draw) call(x *pair) {
	x.t.Helper()
	switch n := d.Intn(10); {
	case n < 6:
		x.send(d.subject(), d.to(), d.text(), d.Intn(3) > 0)
	case n < 9:
		x.take(d.to())
	default:
		x.lens()
	}
}
