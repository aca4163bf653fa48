package audit_test

import (
	"cloister/api"
	"slices"
	"sort"
)

// What the chapter says, another way than the program does: by looking through
// the whole of the lists for each question.

// gave tells whether one of some grants gave somebody a category, for whom more
// holds, if that is asked for.
func gave(l []api.Grant, who, cat int, more ...func(api.Grant) bool) bool {
	return slices.ContainsFunc(l, func(g api.Grant) bool {
		return g.To == who && g.Cat == cat && !slices.ContainsFunc(more, func(holds func(api.Grant) bool) bool { return !holds(g) })
	})
}

func toldHolders(l []api.Grant, cat, step int) ([]int, api.Errno) {
	if cat <= 0 || cat > 2147483647 {
		return nil, api.ErrArg
	}
	var out []int
	for _, g := range l {
		if g.Cat == cat && g.Step <= step && !slices.Contains(out, g.To) {
			out = append(out, g.To)
		}
	}
	sort.Ints(out)
	return out, api.OK
}

func toldCheck(l []api.Grant) (api.Errno, int) {
	for i, g := range l {
		if g.From == -1 || gave(l[:i], g.From, g.Cat) {
			continue
		}
		return api.ErrDeny, i
	}
	return api.OK, 0
}

func toldChain(l []api.Grant, who, cat int) ([]api.Grant, api.Errno) {
	if !gave(l, who, cat) {
		return nil, api.ErrNone
	}
	if e, _ := toldCheck(l); e != api.OK {
		return nil, e
	}
	return toldWay(l, who, cat), api.OK
}

// toldWay is how a category came to somebody, of a list in which nothing is wrong.
func toldWay(l []api.Grant, who, cat int) []api.Grant {
	last := l[slices.IndexFunc(l, func(g api.Grant) bool { return g.To == who && g.Cat == cat })]
	if last.From == -1 {
		return []api.Grant{last}
	}
	return append(toldWay(l, last.From, cat), last)
}

// sameSet tells whether there is the same in two lists.
func sameSet(a, b []int) bool {
	in := func(a, b []int) bool {
		return !slices.ContainsFunc(a, func(x int) bool { return !slices.Contains(b, x) })
	}
	return in(a, b) && in(b, a)
}

func toldLast(l []api.Change, key string, s []int) (api.Change, api.Errno) {
	last, e := api.Change{}, api.ErrNone
	for _, c := range l {
		if c.Key == key && sameSet(c.S, s) {
			last, e = c, api.OK
		}
	}
	return last, e
}

func toldChanges(l api.Log) (api.Errno, int) {
	for i, c := range l.Changes {
		for _, cat := range c.I {
			if !gave(l.Grants, c.Who, cat, func(g api.Grant) bool { return g.Step <= c.Step }) {
				return api.ErrDeny, i
			}
		}
	}
	return api.OK, 0
}

func toldForeign(l api.Log, user int) []api.Use {
	var out []api.Use
	for _, u := range l.Uses {
		other := slices.ContainsFunc(u.Cats, func(cat int) bool { return !gave(l.Grants, user, cat) })
		if other && u.Who != user {
			out = append(out, u)
		}
	}
	return out
}
