package audit_test

import (
	"cloister/api"
	"cloister/audit"
	"cloister/internal/trial"
	"fmt"
	"slices"
	"testing"
)

// isRight holds what a log of layer 19 tells against Au3, and its holders
// against the chapter's words of a chain.
func isRight(t *testing.T, l api.Log) {
	t.Helper()
	wantCheck(t, l.Grants, api.OK, 0)
	wantChanges(t, l, api.OK, 0)
	for _, cat := range given(l) {
		holders, e := audit.Holders(l.Grants, cat, greatest)
		if e != api.OK || len(holders) == 0 {
			t.Fatalf("Holders(%v, %d): %v, %v", l.Grants, cat, holders, e)
		}
		for _, who := range holders {
			chain, e := audit.Chain(l.Grants, who, cat)
			if e != api.OK || !isChain(l.Grants, chain, who, cat) {
				t.Fatalf("Chain(%v, %d, %d): %v, %v", l.Grants, who, cat, chain, e)
			}
		}
	}
	people := []int{-1, 0, 1, 2, 3, 4}
	agrees(t, l, people, append(given(l), 0, 1, 1<<31-1), []int{-2, -1, 0, 20, 1 << 16})
}

// given are the categories that were given.
func given(l api.Log) []int {
	var out []int
	for _, g := range l.Grants {
		out = append(out, g.Cat)
	}
	slices.Sort(out)
	return slices.Compact(out)
}

// isChain tells whether grants are a chain of a category to somebody in a list.
func isChain(l, chain []api.Grant, who, cat int) bool {
	from, begins := -1, 0
	for _, g := range chain {
		at := slices.Index(l[begins:], g)
		if at < 0 || g.From != from || g.Cat != cat {
			return false
		}
		from, begins = g.To, begins+at+1
	}
	return len(chain) > 0 && from == who
}

// Au3, P3: a worker makes, gives, inserts and updates.
func TestLogOfOkws(t *testing.T) {
	s := trial.New(trial.Config(3, 0b011))
	isRight(t, s.Web.Log())
	for who := range 3 {
		s.Enter(who, who)
	}
	s.Ask(0, 0, "ik10il20m..."+trial.Give(1, 2))
	before := s.Web.Steps()
	s.Ask(1, 1, "uk31"+trial.Give(2, 2)+trial.Give(2, 1))
	s.Ask(0, 0, "ik41"+trial.Give(1, 1000)+trial.Give(2, 1000))
	s.Ask(1, 1, "uk51"+trial.Give(2, 2)+trial.Give(0, 4))
	s.Ask(2, 2, "uk60im70dm.0")
	l := s.Web.Log()
	isRight(t, l)

	if h, e := audit.Holders(l.Grants, 2, greatest); e != api.OK || !slices.Equal(h, []int{0, 1, 2}) {
		t.Error(h, e)
	}
	if h, e := audit.Holders(l.Grants, 2, before); e != api.OK || !slices.Equal(h, []int{0, 1}) {
		t.Error(h, e)
	}
	chain, e := audit.Chain(l.Grants, 2, 2)
	if e != api.OK || len(chain) != 3 || chain[0].From != -1 || chain[1].From != 0 || chain[2].From != 1 || chain[2].To != 2 {
		t.Error(chain, e)
	}
	if chain, e = audit.Chain(l.Grants, 2, 6); e != api.OK || len(chain) != 1 || chain[0].Step != -1 {
		t.Error(chain, e)
	}
	if _, e = audit.Chain(l.Grants, 2, 1); e != api.ErrNone {
		t.Error(e)
	}
	c, e := audit.Last(l.Changes, "k", nil)
	if e != api.OK || c.Who != 1 || c.Kind != api.OpUpdate || !slices.Equal(c.I, []int{2}) {
		t.Error(c, e)
	}
	if c, e = audit.Last(l.Changes, "k", []int{1}); e != api.OK || c.Who != 0 || c.Kind != api.OpInsert {
		t.Error(c, e)
	}
	if c, e = audit.Last(l.Changes, "m", []int{5, 5}); e != api.OK || c.Who != 2 || c.Kind != api.OpDelete {
		t.Error(c, e)
	}
	// Of what the open ones used the third one owns nothing.
	var what []string
	for _, u := range audit.Foreign(l, 2) {
		what = append(what, fmt.Sprint(u.Who, u.Cats, u.What))
	}
	if got := fmt.Sprintf("%q", what); got != `["0 [1]give 2 1" "1 [3]give 2 2" "0 [1]insert k 4" "0 [1]give 1000 1" "0 [1]give 1000 2" "1 [3]update k 5" "1 [3]give 2 2" "1 [3]give 4 0"]` {
		t.Error(got)
	}
	for who := range 3 {
		for _, u := range audit.Foreign(l, who) {
			if u.Who == who {
				t.Error(who, u)
			}
		}
	}
}

// Au3: what is missing from such a log is told.
func TestLogThatLacks(t *testing.T) {
	s := trial.New(trial.Config(2, 0b11))
	s.Enter(0, 0)
	s.Enter(1, 1)
	s.Ask(0, 0, "ik11"+trial.Give(1, 2))
	s.Ask(1, 1, "uk21"+trial.Give(0, 4))
	l := s.Web.Log()
	isRight(t, l)
	// From the kernel: 2 and 1 of the first user, 4 and 3 of the second one.
	if len(l.Grants) != 6 || len(l.Changes) != 2 {
		t.Fatal(l)
	}
	none := -1
	for i, places := range [][2]int{{3, 0}, {none, none}, {4, none}, {none, none}, {none, 1}, {none, none}} {
		less := api.Log{Grants: slices.Delete(slices.Clone(l.Grants), i, i+1), Changes: l.Changes}
		wantCheck(t, less.Grants, denied(places[0]), max(places[0], 0))
		wantChanges(t, less, denied(places[1]), max(places[1], 0))
	}
	// A change ahead of the grant that it needs.
	early := slices.Clone(l.Changes)
	early[1].Step = early[0].Step
	wantChanges(t, api.Log{Grants: l.Grants, Changes: early}, api.ErrDeny, 1)
}

// denied is what is answered of a place, -1 being none.
func denied(place int) api.Errno {
	if place < 0 {
		return api.OK
	}
	return api.ErrDeny
}

// Au3: scripts that are drawn.
func TestDrawnWebs(t *testing.T) {
	longest, changes := 0, 0
	for seed := range int64(60) {
		d := draws(seed)
		n := 2 + d.Intn(3)
		s := trial.New(trial.Config(n, d.Intn(16)|1))
		for who := range n {
			s.Enter(who, who)
		}
		for range 12 {
			who := d.Intn(n)
			var commands string
			for range 1 + d.Intn(5) {
				commands += d.command(n)
			}
			s.Ask(who, who, commands)
		}
		l := s.Web.Log()
		isRight(t, l)
		changes += len(l.Changes)
		for _, g := range l.Grants {
			chain, _ := audit.Chain(l.Grants, g.To, g.Cat)
			longest = max(longest, len(chain))
		}
	}
	if longest < 3 || changes < 300 {
		t.Error(longest, changes)
	}
}

// command is one of a worker.
func (d draw) command(users int) string {
	open := fmt.Sprint(d.Intn(2))
	key := one(d, "k", "l", "m")
	switch d.Intn(8) {
	case 0:
		return "m..."
	case 1, 2:
		return trial.Give(d.Intn(users), one(d, 1000*(1+d.Intn(users))+d.Intn(2), 1+d.Intn(2*users)))
	case 3:
		return trial.Give(d.Intn(users), 2*(1+d.Intn(users)))
	case 4, 5:
		return "i" + key + "1" + open
	case 6:
		return "u" + key + "2" + open
	}
	return "d" + key + "." + open
}
