package audit_test

import (
	"cloister/api"
	"cloister/audit"
	"fmt"
	"math"
	"slices"
	"testing"
)

const (
	least    = math.MinInt
	greatest = math.MaxInt
)

// grant is one at the step 0.
func grant(from, to, cat int) api.Grant { return api.Grant{From: from, To: to, Cat: cat} }

// at is the grant at another step.
func at(step int, g api.Grant) api.Grant {
	g.Step = step
	return g
}

// The chapter's example.
func TestExample(t *testing.T) {
	l := []api.Grant{grant(-1, 0, 2), grant(0, 1, 2)}
	wantHolders(t, l, 2, 0, []int{0, 1}, api.OK)
	wantChain(t, l, 1, 2, l, api.OK)
	wantCheck(t, []api.Grant{grant(1, 0, 4)}, api.ErrDeny, 0)
}

func wantHolders(t *testing.T, l []api.Grant, cat, step int, want []int, e api.Errno) {
	t.Helper()
	if got, f := audit.Holders(l, cat, step); f != e || !slices.Equal(got, want) {
		t.Errorf("Holders(%v, %d, %d): %v, %v; want %v, %v", l, cat, step, got, f, want, e)
	}
}

func wantCheck(t *testing.T, l []api.Grant, e api.Errno, place int) {
	t.Helper()
	if f, got := audit.Check(l); f != e || got != place {
		t.Errorf("Check(%v): %v, %d; want %v, %d", l, f, got, e, place)
	}
}

func wantChain(t *testing.T, l []api.Grant, who, cat int, want []api.Grant, e api.Errno) {
	t.Helper()
	if got, f := audit.Chain(l, who, cat); f != e || !slices.Equal(got, want) {
		t.Errorf("Chain(%v, %d, %d): %v, %v; want %v, %v", l, who, cat, got, f, want, e)
	}
}

// Au1, Holders: categories that are none, steps around a grant's, one that is
// given something twice.
func TestHolders(t *testing.T) {
	max := 1<<31 - 1
	l := []api.Grant{at(-1, grant(-1, 7, 2)), at(5, grant(7, 1, 2)), at(9, grant(1, 7, 2)), at(0, grant(-1, 3, max)), at(4, grant(7, 0, 2)), at(6, grant(7, 1, 2)), at(3, grant(-1, 9, 1))}
	for step, want := range map[int][]int{-2: nil, -1: {7}, 0: {7}, 3: {7}, 4: {0, 7}, 5: {0, 1, 7}, 6: {0, 1, 7}, 9: {0, 1, 7}, 10: {0, 1, 7}, least: nil, greatest: {0, 1, 7}} {
		wantHolders(t, l, 2, step, want, api.OK)
		wantHolders(t, l, 3, step, nil, api.OK)
		wantHolders(t, nil, 2, step, nil, api.OK)
		wantHolders(t, []api.Grant{}, 2, step, nil, api.OK)
	}
	wantHolders(t, l, max, 0, []int{3}, api.OK)
	wantHolders(t, l, max, -1, nil, api.OK)
	wantHolders(t, l, 1, 3, []int{9}, api.OK)
	wantHolders(t, l, 1, 2, nil, api.OK)
	wrong := []int{-1, 0, max + 1, least, greatest, -max}
	for _, cat := range wrong {
		l = append(l, grant(-1, 0, cat))
	}
	for _, cat := range wrong {
		wantHolders(t, l, cat, 9, nil, api.ErrArg)
		wantHolders(t, nil, cat, 9, nil, api.ErrArg)
	}
	// Who gave it is not asked for, nor whether somebody might be one.
	wantHolders(t, []api.Grant{grant(5, -1, 2), grant(6, least, 2), grant(5, greatest, 2), grant(8, 0, 2)}, 2, 0, []int{least, -1, 0, greatest}, api.OK)
}

// Au1, Check: the first one that somebody gave who was not given it ahead.
func TestCheck(t *testing.T) {
	first, second := grant(-1, 0, 2), grant(0, 1, 2)
	for _, c := range []struct {
		l     []api.Grant
		e     api.Errno
		place int
	}{
		{nil, api.OK, 0},
		{[]api.Grant{}, api.OK, 0},
		{[]api.Grant{first}, api.OK, 0},
		{[]api.Grant{first, second}, api.OK, 0},
		{[]api.Grant{first, first, second, second, first}, api.OK, 0},
		{[]api.Grant{second}, api.ErrDeny, 0},
		{[]api.Grant{second, first}, api.ErrDeny, 0},
		{[]api.Grant{first, grant(1, 0, 2), second}, api.ErrDeny, 1},
		{[]api.Grant{first, grant(0, 1, 4)}, api.ErrDeny, 1},
		{[]api.Grant{first, grant(-1, 1, 4), grant(1, 2, 2)}, api.ErrDeny, 2},
		{[]api.Grant{first, grant(-1, 1, 4), grant(1, 2, 4), grant(2, 2, 2), grant(5, 5, 5)}, api.ErrDeny, 3},
		{[]api.Grant{first, grant(0, 0, 2), grant(1, 1, 2)}, api.ErrDeny, 2},
		{[]api.Grant{grant(-1, 5, 2), grant(-1, 5, 2), grant(5, -1, 2)}, api.OK, 0},
		{[]api.Grant{first, grant(-2, 1, 2)}, api.ErrDeny, 1},
		{[]api.Grant{first, grant(least, 1, 2)}, api.ErrDeny, 1},
		{[]api.Grant{grant(-1, -2, 2), grant(-2, greatest, 2), grant(greatest, 0, 2)}, api.OK, 0},
		{[]api.Grant{grant(-1, 0, 0), grant(0, 1, 0), grant(-1, 1, -5), grant(1, 1, -5), grant(1, 1, 0), grant(0, 0, -5)}, api.ErrDeny, 5},
		// The places count, not the steps.
		{[]api.Grant{at(9, first), at(3, second)}, api.OK, 0},
		{[]api.Grant{at(3, second), at(-1, first)}, api.ErrDeny, 0},
	} {
		wantCheck(t, c.l, c.e, c.place)
	}
}

// Au1, Chain: from the kernel at once, by one, by several, by several ways.
func TestChain(t *testing.T) {
	l := []api.Grant{
		at(-1, grant(-1, 0, 2)), at(-1, grant(-1, 1, 4)),
		at(5, grant(0, 2, 2)), at(6, grant(2, 3, 2)), at(7, grant(1, 3, 4)),
		at(8, grant(0, 3, 2)), at(9, grant(-1, 3, 2)), at(9, grant(3, 0, 2)),
		at(9, grant(0, 0, 2)), at(9, grant(3, 4, 2)), at(10, grant(3, 2, 4)),
		at(11, grant(-1, 4, 4)), at(12, grant(0, -1, 2)), at(13, grant(4, 5, 2)),
	}
	way := func(places ...int) (out []api.Grant) {
		for _, i := range places {
			out = append(out, l[i])
		}
		return out
	}
	for _, c := range []struct {
		who, cat int
		want     []api.Grant
	}{
		{0, 2, way(0)}, {1, 4, way(1)}, {2, 2, way(0, 2)}, {3, 2, way(0, 2, 3)}, {3, 4, way(1, 4)},
		{4, 2, way(0, 2, 3, 9)}, {2, 4, way(1, 4, 10)}, {4, 4, way(11)}, {-1, 2, way(0, 12)}, {5, 2, way(0, 2, 3, 9, 13)},
	} {
		wantChain(t, l, c.who, c.cat, c.want, api.OK)
	}
	nobody := [][2]int{{0, 4}, {1, 2}, {6, 2}, {-1, 4}, {-2, 2}, {0, 0}, {0, -1}, {0, 3}, {least, least}, {greatest, greatest}, {5, 4}}
	wrong := append(slices.Clone(l), grant(9, 9, 9), grant(0, 7, 2))
	for _, c := range nobody {
		wantChain(t, l, c[0], c[1], nil, api.ErrNone)
		wantChain(t, wrong, c[0], c[1], nil, api.ErrNone) // none comes ahead of what is wrong
		wantChain(t, nil, c[0], c[1], nil, api.ErrNone)
	}
	for _, who := range []int{0, 2, 3, 7} {
		wantChain(t, wrong, who, 2, nil, api.ErrDeny) // though its own way would be right
	}
	wantChain(t, wrong, 9, 9, nil, api.ErrDeny)
	// Categories that are none: nothing says that they are not looked for.
	wantChain(t, []api.Grant{grant(-1, 0, 0), grant(0, 1, 0)}, 1, 0, []api.Grant{grant(-1, 0, 0), grant(0, 1, 0)}, api.OK)
	wantChain(t, []api.Grant{grant(0, 0, 2), grant(-1, 0, 2)}, 0, 2, nil, api.ErrDeny)
	wantChain(t, []api.Grant{grant(0, 1, 2), grant(1, 0, 2)}, 0, 2, nil, api.ErrDeny)
}

// Au1, Chain: one that is as long as the list.
func TestLongChain(t *testing.T) {
	l := []api.Grant{grant(-1, 0, 2)}
	for who := range 100000 {
		l = append(l, grant(who, who+1, 2))
	}
	wantCheck(t, l, api.OK, 0)
	if got, e := audit.Chain(l, 100000, 2); e != api.OK || !slices.Equal(got, l) {
		t.Error(len(got), e)
	}
	if got, e := audit.Holders(l, 2, 0); e != api.OK || len(got) != 100001 || got[100000] != 100000 {
		t.Error(len(got), e)
	}
}

// Au2, Last: the key and the secrecy, however that is written.
func TestLast(t *testing.T) {
	change := func(step int, key string, s ...int) api.Change {
		return api.Change{Step: step, Who: 1, Kind: api.OpUpdate, Key: key, S: s, I: []int{4, 2}}
	}
	l := []api.Change{change(0, "k", 1), change(1, "k"), change(2, "l", 1), change(3, "k", 3, 1), change(4, "k", 1, 1), change(4, "k", 1, 3, 3), change(2, "", 5), change(7, "K", 1)}
	for _, c := range []struct {
		key  string
		s    []int
		want int
	}{
		{"k", []int{1}, 4}, {"k", []int{1, 1, 1}, 4}, {"k", nil, 1}, {"k", []int{}, 1}, {"l", []int{1}, 2}, {"l", []int{1, 1}, 2},
		{"k", []int{1, 3}, 5}, {"k", []int{3, 1}, 5}, {"k", []int{3, 1, 3}, 5}, {"", []int{5}, 6}, {"K", []int{1}, 7},
		{"k", []int{3}, -1}, {"l", nil, -1}, {"", nil, -1}, {"m", []int{1}, -1}, {"k", []int{1, 3, 5}, -1}, {"l", []int{3, 1}, -1}, {"kk", []int{1}, -1}, {"", []int{1}, -1},
	} {
		for _, l := range [][]api.Change{l, append(slices.Clone(l), change(9, "n", 1), change(9, "k", 9))} {
			got, e := audit.Last(l, c.key, c.s)
			want, f := api.Change{}, api.ErrNone
			if c.want >= 0 {
				want, f = l[c.want], api.OK
			}
			if e != f || fmt.Sprintf("%#v", got) != fmt.Sprintf("%#v", want) {
				t.Errorf("Last(%q, %v): %#v, %v; want %#v, %v", c.key, c.s, got, e, want, f)
			}
		}
		if got, e := audit.Last(nil, c.key, c.s); e != api.ErrNone || got.S != nil {
			t.Error(got, e)
		}
	}
	// Of several of one step the one that stands last.
	twice := []api.Change{change(8, "k", 1), change(5, "k", 1)}
	twice[1].Kind = api.OpDelete
	if got, e := audit.Last(twice, "k", []int{1}); e != api.OK || got.Kind != api.OpDelete || got.Step != 5 {
		t.Error(got, e)
	}
}

func wantChanges(t *testing.T, l api.Log, e api.Errno, place int) {
	t.Helper()
	if f, got := audit.Changes(l); f != e || got != place {
		t.Errorf("Changes(%v): %v, %d; want %v, %d", l, f, got, e, place)
	}
}

// Au2, Changes: who was given all of an integrity by then.
func TestChanges(t *testing.T) {
	grants := []api.Grant{at(-1, grant(-1, 0, 2)), at(-1, grant(-1, 1, 4)), at(5, grant(1, 0, 4)), at(8, grant(-1, 0, 1000)), at(7, grant(-1, 0, 1000)), at(9, grant(-1, 0, 1000)), at(3, grant(-1, 1, 3))}
	change := func(step, who int, i ...int) api.Change {
		return api.Change{Step: step, Who: who, Kind: api.OpInsert, Key: "k", S: []int{77}, I: i}
	}
	wantChanges(t, api.Log{}, api.OK, 0)
	wantChanges(t, api.Log{Grants: grants, Changes: []api.Change{}}, api.OK, 0)
	right := []api.Change{
		change(0, 0, 2), change(-1, 0, 2), change(least, 5), change(0, -1), change(5, 0, 4), change(6, 0, 2, 4), change(greatest, 0, 4, 2, 4),
		change(7, 0, 1000), change(7, 0, 2, 4, 1000), change(3, 1, 3, 4), change(-1, 1, 4), change(8, 0, 1000), change(9, 0, 1000),
	}
	wrong := []api.Change{
		change(-2, 0, 2), change(0, 0, 3), change(4, 0, 4), change(4, 0, 2, 4), change(0, 1, 2), change(6, 0, 1000), change(6, 0, 2, 4, 1000), change(2, 1, 3, 4),
		change(2, 1, 4, 3), change(99, 2, 2), change(99, -1, 2), change(0, 0, 0), change(0, 0, -1), change(0, 0, 2, 3), change(least, 0, 2), change(9, 1, 1000),
	}
	wantChanges(t, api.Log{Grants: grants, Changes: right}, api.OK, 0)
	for _, c := range right {
		wantChanges(t, api.Log{Grants: grants, Changes: []api.Change{c}}, api.OK, 0)
		e, place := api.OK, 0
		if len(c.I) > 0 {
			e, place = api.ErrDeny, 1
		}
		wantChanges(t, api.Log{Changes: []api.Change{change(0, 3), c}}, e, place)
	}
	for i, c := range wrong {
		wantChanges(t, api.Log{Grants: grants, Changes: []api.Change{c}}, api.ErrDeny, 0)
		wantChanges(t, api.Log{Grants: grants, Changes: append(right[:i%13:i%13], append(slices.Clone(wrong[i:]), right...)...)}, api.ErrDeny, i%13)
	}
	// Where the grant stands does not count, nor who gave it, nor its category.
	wantChanges(t, api.Log{Grants: []api.Grant{at(4, grant(9, 0, -3)), at(2, grant(-1, 9, -3))}, Changes: []api.Change{change(4, 0, -3), change(2, 9, -3), change(3, 0, -3)}}, api.ErrDeny, 2)
}

func wantForeign(t *testing.T, l api.Log, user int, want ...int) {
	t.Helper()
	var uses []api.Use
	for _, i := range want {
		uses = append(uses, l.Uses[i])
	}
	if got := audit.Foreign(l, user); fmt.Sprintf("%#v", got) != fmt.Sprintf("%#v", uses) {
		t.Errorf("Foreign(%v, %d): %v; want %v", l, user, got, uses)
	}
}

// Au2, Foreign: by others, of something that the user was not given.
func TestForeign(t *testing.T) {
	use := func(step, who int, cats ...int) api.Use {
		return api.Use{Step: step, Who: who, Cats: cats, What: fmt.Sprint("what ", step)}
	}
	l := api.Log{
		Grants: []api.Grant{at(-1, grant(-1, 0, 2)), at(-1, grant(-1, 1, 4)), at(-1, grant(-1, 1, 3)), at(50, grant(1, 0, 4)), at(-1, grant(-1, 2, 5))},
		Uses: []api.Use{
			use(0, 0, 1), use(1, 0, 2), use(2, 1, 3), use(3, 1, 4), use(4, 1, 2), use(5, 1, 3, 4), use(6, 1, 4, 3),
			use(7, 1, 2, 4), use(8, 2, 5), use(9, 2), use(3, -1, 3), use(60, -1, 4), use(2, 1, 3), use(11, 2, 2, 4, 5),
		},
	}
	wantForeign(t, l, 0, 2, 5, 6, 8, 10, 12, 13)
	wantForeign(t, l, 1, 0, 1, 8, 13)
	wantForeign(t, l, 2, 0, 1, 2, 3, 4, 5, 6, 7, 10, 11, 12)
	wantForeign(t, l, -1, 0, 1, 2, 3, 4, 5, 6, 7, 8, 12, 13)
	for _, user := range []int{3, 16, least, greatest, -2} {
		wantForeign(t, l, user, 0, 1, 2, 3, 4, 5, 6, 7, 8, 10, 11, 12, 13)
	}
	for _, user := range []int{-1, 0, 1} {
		wantForeign(t, api.Log{}, user)
		wantForeign(t, api.Log{Grants: l.Grants}, user)
		wantForeign(t, api.Log{Uses: []api.Use{use(0, 7), use(0, 7)}}, user)
		wantForeign(t, api.Log{Uses: []api.Use{use(0, 7, 2), use(0, user, 2)}}, user, 0)
	}
}
