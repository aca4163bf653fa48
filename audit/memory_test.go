package audit_test

import (
	"cloister/api"
	"cloister/audit"
	"fmt"
	"slices"
	"sync"
	"testing"
	"unsafe"
)

// roomy is a list with another one behind its end.
func roomy[T any](l []T, behind ...T) []T {
	return append(slices.Clone(l), behind...)[:len(l)]
}

// roomyLog is a log all of whose lists have something behind their ends.
func roomyLog(l api.Log) api.Log {
	out := api.Log{Grants: roomy(l.Grants, grant(-1, 0, 1), grant(9, 9, 9))}
	for _, u := range l.Uses {
		u.Cats = roomy(u.Cats, 77, 78)
		out.Uses = append(out.Uses, u)
	}
	for _, c := range l.Changes {
		c.S, c.I = roomy(c.S, 77, 1), roomy(c.I, 78, 79)
		out.Changes = append(out.Changes, c)
	}
	out.Uses = roomy(out.Uses, api.Use{Who: 9, Cats: []int{77}, What: "behind"})
	out.Changes = roomy(out.Changes, api.Change{Who: 9, Key: "k", I: []int{77}})
	return out
}

// shown is all that there is of a log, what lies behind its lists' ends too.
func shown(l api.Log) string {
	out := fmt.Sprintf("%#v", l.Grants[:cap(l.Grants)])
	for _, u := range l.Uses[:cap(l.Uses)] {
		out += fmt.Sprintf("%#v %#v", u, u.Cats[:cap(u.Cats)])
	}
	for _, c := range l.Changes[:cap(l.Changes)] {
		out += fmt.Sprintf("%#v %#v %#v", c, c.S[:cap(c.S)], c.I[:cap(c.I)])
	}
	return out
}

// spoil changes all that a list has, and the room behind it.
func spoil[T any](l []T, with T) {
	for i := range l[:cap(l)] {
		l[:cap(l)][i] = with
	}
}

// spoilLog changes all that a log has.
func spoilLog(l api.Log) {
	for _, u := range l.Uses {
		spoil(u.Cats, -7)
	}
	for _, c := range l.Changes {
		spoil(c.S, -7)
		spoil(c.I, -7)
	}
	spoil(l.Grants, grant(-7, -7, -7))
	spoil(l.Uses, api.Use{What: "spoiled"})
	spoil(l.Changes, api.Change{Key: "spoiled"})
}

// answers are all that is answered of a log.
type answers struct {
	holders []int
	chain   []api.Grant
	last    api.Change
	foreign []api.Use
	numbers []int
}

func ask(l api.Log, who, cat, step int, key string, s []int) (a answers) {
	var e [5]api.Errno
	var at [2]int
	a.holders, e[0] = audit.Holders(l.Grants, cat, step)
	a.chain, e[1] = audit.Chain(l.Grants, who, cat)
	e[2], at[0] = audit.Check(l.Grants)
	a.last, e[3] = audit.Last(l.Changes, key, s)
	e[4], at[1] = audit.Changes(l)
	a.foreign = audit.Foreign(l, who)
	for _, n := range e {
		a.numbers = append(a.numbers, int(n))
	}
	a.numbers = append(a.numbers, at[:]...)
	return a
}

func (a answers) text() string { return fmt.Sprintf("%#v", a) }

// R3: logs that are handed in are not changed, not read beyond their lists' ends,
// and share nothing with what is answered.
func TestArguments(t *testing.T) {
	for seed := range int64(500) {
		d := draws(seed)
		plain := d.log()
		l, s := roomyLog(plain), roomy(d.cats(2), 77)
		who, cat, step := d.person(), 1+d.Intn(4), d.step()
		before := shown(l)
		a := ask(l, who, cat, step, "k", s)
		if want := ask(plain, who, cat, step, "k", slices.Clip(s)).text(); a.text() != want {
			t.Fatalf("%v: %s; want %s", plain, a.text(), want)
		}
		if shown(l) != before {
			t.Fatalf("changed: %s, %s", before, shown(l))
		}
		told := a.text()
		spoilLog(l)
		spoil(s, -7)
		if a.text() != told {
			t.Fatalf("shared with an argument: %s, %s", told, a.text())
		}
	}
}

// R3: what is answered is new each time, the room behind it too.
func TestAnswersAreNew(t *testing.T) {
	for seed := range int64(500) {
		d := draws(seed)
		l, s := roomyLog(d.log()), d.cats(2)
		who, cat, step := d.person(), 1+d.Intn(4), d.step()
		before := shown(l)
		a := ask(l, who, cat, step, "k", s)
		told := a.text()
		b := ask(l, who, cat, step, "k", s)
		for i, u := range b.foreign {
			spoil(u.Cats, -7)
			if i+1 < len(b.foreign) && slices.Contains(b.foreign[i+1].Cats, -7) {
				t.Fatal("two lists of one answer share memory")
			}
		}
		spoil(b.last.S, -7)
		if slices.Contains(b.last.I, -7) {
			t.Fatal("two lists of one answer share memory")
		}
		spoil(b.last.I, -7)
		spoil(b.holders, -7)
		spoil(b.chain, grant(-7, -7, -7))
		spoil(b.foreign, api.Use{What: "spoiled"})
		if shown(l) != before || a.text() != told {
			t.Fatal("an answer is shared")
		}
	}
}

// R3: nil and the empty list are the same.
func TestNilAndEmpty(t *testing.T) {
	a := ask(api.Log{}, 0, 1, 0, "k", nil).text()
	b := ask(api.Log{Grants: []api.Grant{}, Uses: []api.Use{}, Changes: []api.Change{}}, 0, 1, 0, "k", []int{}).text()
	if a != b {
		t.Error(a, b)
	}
	l := api.Log{Changes: []api.Change{{Key: "k", S: []int{}, I: []int{}}}, Uses: []api.Use{{Who: 1, Cats: []int{}}}}
	for _, s := range [][]int{nil, {}} {
		if c, e := audit.Last(l.Changes, "k", s); e != api.OK || len(c.S)+len(c.I) > 0 {
			t.Error(c, e)
		}
	}
	if e, at := audit.Changes(l); e != api.OK || at != 0 {
		t.Error(e, at)
	}
	if u := audit.Foreign(l, 0); len(u) > 0 {
		t.Error(u)
	}
}

// R3, of texts: the bytes behind those that were handed in are changed
// afterwards; what was answered is what it was.
func TestTexts(t *testing.T) {
	for _, n := range []int{1, 2, 31, 32, 33, 1000} {
		bytes := slices.Repeat([]byte{'a'}, n)
		text, want := unsafe.String(&bytes[0], n), string(bytes)
		l := api.Log{Changes: []api.Change{{Key: text}}, Uses: []api.Use{{Who: 1, Cats: []int{3}, What: text}}}
		c, e := audit.Last(l.Changes, text, nil)
		u := audit.Foreign(l, 0)
		if e != api.OK || len(u) != 1 {
			t.Fatal(e, u)
		}
		spoil(bytes, '!')
		if c.Key != want || u[0].What != want {
			t.Error(c, u)
		}
	}
}

// R1: numbers that are none, and lists that are nonsense.
func TestExtremes(t *testing.T) {
	odd := []int{least, least + 1, -2, -1, 0, 1, 1<<31 - 1, 1 << 31, greatest}
	l := api.Log{}
	for _, from := range odd {
		for _, to := range odd {
			for _, cat := range odd {
				l.Grants = append(l.Grants, api.Grant{Step: to, From: from, To: to, Cat: cat})
			}
			l.Uses = append(l.Uses, api.Use{Step: to, Who: from, Cats: odd})
			l.Changes = append(l.Changes, api.Change{Step: from, Who: to, Kind: from, S: odd, I: odd})
		}
	}
	for _, who := range odd {
		for _, cat := range odd {
			for _, step := range odd {
				a := ask(l, who, cat, step, "", odd)
				if e := api.Errno(a.numbers[0]); (e == api.ErrArg) != (cat < 1 || cat > 1<<31-1) {
					t.Error(cat, e)
				}
				if a.chain != nil || api.Errno(a.numbers[1]) != api.ErrDeny {
					t.Error(a.chain, a.numbers)
				}
			}
		}
	}
	agrees(t, l, odd, odd, odd)
}

// R4: what is answered is the same each time, whoever asks meanwhile.
func TestTogether(t *testing.T) {
	l := draws(7).log()
	want := ask(l, 1, 2, 3, "k", []int{2, 1}).text()
	got := make([]string, 8)
	var all sync.WaitGroup
	for k := range got {
		all.Go(func() {
			for range 50 {
				if got[k] = ask(l, 1, 2, 3, "k", []int{2, 1}).text(); got[k] != want {
					return
				}
			}
		})
	}
	all.Wait()
	for _, text := range got {
		if text != want {
			t.Error(text, want)
		}
	}
}
