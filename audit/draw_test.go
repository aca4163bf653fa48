package audit_test

import (
	"cloister/api"
	"cloister/audit"
	"fmt"
	"math/rand"
	"slices"
	"testing"
)

// agrees holds all that is asked of a log against what is told another way.
func agrees(t *testing.T, l api.Log, people, cats, steps []int) {
	t.Helper()
	e, place := toldCheck(l.Grants)
	wantCheck(t, l.Grants, e, place)
	e, place = toldChanges(l)
	wantChanges(t, l, e, place)
	for _, cat := range cats {
		for _, step := range steps {
			want, e := toldHolders(l.Grants, cat, step)
			wantHolders(t, l.Grants, cat, step, want, e)
		}
		for _, who := range people {
			want, e := toldChain(l.Grants, who, cat)
			wantChain(t, l.Grants, who, cat, want, e)
		}
	}
	for _, who := range people {
		if got, want := audit.Foreign(l, who), toldForeign(l, who); fmt.Sprintf("%#v", got) != fmt.Sprintf("%#v", want) {
			t.Fatalf("Foreign(%v, %d): %v; want %v", l, who, got, want)
		}
	}
}

// Au1: all lists of at most three grants among two, and all of four of one
// category.
func TestAllGrants(t *testing.T) {
	var one, all []api.Grant
	for from := -1; from < 2; from++ {
		for to := range 2 {
			one = append(one, grant(from, to, 2))
			for _, cat := range []int{2, 3} {
				all = append(all, at(len(all)%2, grant(from, to, cat)))
			}
		}
	}
	var through func(of, l []api.Grant, most int)
	through = func(of, l []api.Grant, most int) {
		agrees(t, api.Log{Grants: l}, []int{-1, 0, 1}, []int{2, 3}, []int{-1, 0, 1})
		for _, g := range of {
			if most > 0 {
				through(of, append(l[:len(l):len(l)], g), most-1)
			}
		}
	}
	through(all, nil, 3)
	through(one, nil, 4)
}

// draw is what is drawn by a seed.
type draw struct{ *rand.Rand }

func draws(seed int64) draw { return draw{rand.New(rand.NewSource(seed))} }

// one is one of some.
func one[T any](d draw, of ...T) T { return of[d.Intn(len(of))] }

func (d draw) person() int { return d.Intn(6) - 1 }
func (d draw) step() int   { return one(d, -1, 0, 1, 2, 3, 4, 5, 6) }

func (d draw) cats(most int) []int {
	var out []int
	for range d.Intn(most + 1) {
		out = append(out, 1+d.Intn(4))
	}
	return out
}

// grants are some, most of which are right.
func (d draw) grants(most int) []api.Grant {
	var out []api.Grant
	for range d.Intn(most + 1) {
		g := api.Grant{Step: d.step(), From: d.person(), To: d.person(), Cat: 1 + d.Intn(4)}
		if d.Intn(40) > 0 && g.From >= 0 && !gave(out, g.From, g.Cat) {
			g.From = -1
		}
		out = append(out, g)
	}
	return out
}

// log is one of some grants, changes of which most are right, and uses.
func (d draw) log() api.Log {
	l := api.Log{Grants: d.grants(20)}
	for range d.Intn(8) {
		c := api.Change{Step: d.step(), Who: d.person(), Key: one(d, "k", "l"), S: d.cats(2), I: d.cats(3), Kind: d.Intn(5)}
		if e, _ := toldChanges(api.Log{Grants: l.Grants, Changes: []api.Change{c}}); e == api.OK || d.Intn(20) == 0 {
			l.Changes = append(l.Changes, c)
		}
	}
	for range d.Intn(8) {
		l.Uses = append(l.Uses, api.Use{Step: d.step(), Who: d.person(), Cats: d.cats(3), What: fmt.Sprint("what ", d.Intn(9))})
	}
	return l
}

// Au1, Au2: logs that are drawn.
func TestDrawn(t *testing.T) {
	seen := map[string]int{}
	for seed := range int64(3000) {
		d := draws(seed)
		l := d.log()
		agrees(t, l, []int{-1, 0, 1, 2, 3, 4, 5}, []int{0, 1, 2, 3, 4, 5}, []int{-2, -1, 0, 3, 6})
		for range 6 {
			key, s := one(d, "k", "l", "m"), d.cats(2)
			want, e := toldLast(l.Changes, key, s)
			if got, f := audit.Last(l.Changes, key, s); e != f || fmt.Sprintf("%#v", got) != fmt.Sprintf("%#v", want) {
				t.Fatalf("Last(%v, %q, %v): %v, %v; want %v, %v", l.Changes, key, s, got, f, want, e)
			}
			seen[fmt.Sprint("last ", e)]++
		}
		e, _ := audit.Check(l.Grants)
		f, _ := audit.Changes(l)
		seen[fmt.Sprint("check ", e)]++
		seen[fmt.Sprint("changes ", f)]++
		for who := range 5 {
			for cat := 1; cat < 5; cat++ {
				chain, _ := audit.Chain(l.Grants, who, cat)
				seen[fmt.Sprint("chain ", len(chain))]++
			}
		}
	}
	for _, word := range []string{"last 0", "last 3", "check 0", "check 21", "changes 0", "changes 21", "chain 0", "chain 1", "chain 2", "chain 3"} {
		if seen[word] < 20 {
			t.Error(word, seen[word])
		}
	}
}

// Au1: what is behind in a list changes nothing of what was told of its
// beginning, but that Check may refuse it.
func TestBeginnings(t *testing.T) {
	for seed := range int64(500) {
		d := draws(seed)
		l := d.grants(12)
		e, place := audit.Check(l)
		for n := range len(l) + 1 {
			wrong := e == api.ErrDeny && place < n
			f, at := audit.Check(l[:n])
			if wrong != (f == api.ErrDeny) || wrong && at != place {
				t.Fatalf("Check(%v): %v, %d", l[:n], f, at)
			}
			for who := range 5 {
				begun, f := audit.Chain(l[:n], who, 2)
				if chain, g := audit.Chain(l, who, 2); f == api.OK && g == api.OK && !slices.Equal(begun, chain) {
					t.Fatalf("Chain of %d in %v: %v, then %v", who, l, begun, chain)
				}
			}
		}
	}
}
