package store_test

import (
	"cloister/api"
	"cloister/store"
	"slices"
	"strings"
	"sync"
	"testing"
	"unsafe"
)

// R4: a copy and the store that it was made of, each changed behind the other's
// back.
func TestCopy(t *testing.T) {
	for seed := range int64(20) {
		d := draws(seed, 3)
		p := made(t, 3, 300)
		for range 100 {
			p.as(d.subject(), d.op())
		}
		pairs := []*pair{p}
		for range 4 {
			first := pairs[d.Intn(len(pairs))]
			pairs = append(pairs, &pair{t: t, s: first.s.Copy(), b: first.b.copy()})
			for range 60 {
				one := pairs[d.Intn(len(pairs))]
				one.as(d.subject(), d.op())
				if d.Intn(9) == 0 {
					r := api.Row{Key: d.key(), Label: api.Label{S: d.set()}, Who: d.Intn(3)}
					one.load(r, one.b.copy().load(r))
				}
			}
			for _, one := range pairs {
				one.stands()
			}
		}
	}
	// The users and the quota are the copy's too, of an empty store as well.
	c := &pair{t: t, s: made(t, 2, 17).s.Copy(), b: &book{users: 2, quota: 17}}
	c.stands()
	c.tells(person(2), api.Op{Kind: api.OpGet, Key: "k"}, api.ErrArg)
	c.tells(anyone(1, nil, nil, nil), api.Op{Kind: api.OpInsert, Key: "kk"}, api.ErrQuota)
	c.tells(anyone(1, nil, nil, nil), api.Op{Kind: api.OpInsert, Key: "k"}, api.OK)
	c.stands()
}

// Big ones apart: each row of the store goes out, the copy keeps all.
func TestCopyOfMany(t *testing.T) {
	p := made(t, 3, 0, several()...)
	c := &pair{t: t, s: p.s.Copy(), b: p.b.copy()}
	all := anyone(0, nil, nil, append(upTo(300), 65536, greatest))
	for _, r := range several() {
		p.tells(all, api.Op{Kind: api.OpDelete, Key: r.Key, S: r.Label.S}, api.OK)
	}
	p.stands()
	c.stands()
	if len(p.s.Rows()) != 0 || len(c.s.Rows()) != len(several()) {
		t.Error(len(p.s.Rows()), len(c.s.Rows()))
	}
}

// spoil changes all that a list has, and the room behind it.
func spoil[T any](l []T, x T) {
	for i := range l[:cap(l)] {
		l[:cap(l)][i] = x
	}
}

func spoilRows(rows []api.Row) {
	for i := range rows[:cap(rows)] {
		r := rows[:cap(rows)][i]
		spoil(r.Cells, "spoilt")
		spoil(r.Label.S, -7)
		spoil(r.Label.I, -7)
	}
	spoil(rows, api.Row{Key: "spoilt", Who: 1})
}

// roomy is a list with others behind its end.
func roomy[T any](l []T, behind ...T) []T {
	return append(slices.Clone(l), behind...)[:len(l)]
}

// wholes are copies of what lists have, with the room behind them.
func wholes(x api.Subject, o api.Op) ([][]int, []string) {
	var out [][]int
	for _, l := range [][]int{x.Label.S, x.Label.I, x.Own, o.S, o.I} {
		out = append(out, slices.Clone(l[:cap(l)]))
	}
	return out, slices.Clone(o.Cells[:cap(o.Cells)])
}

// R3: what is handed in is not changed, nor read beyond its end, nor kept; what
// is handed out is nobody else's.
func TestMemory(t *testing.T) {
	for seed := range int64(40) {
		d := draws(seed, 3)
		p := made(t, 3, 500)
		for range 200 {
			x, o := d.subject(), d.op()
			x.Label.S, x.Label.I, x.Own = roomy(x.Label.S, 1, 2, 3, 4, 0), roomy(x.Label.I, 1, 2, 3, 4), roomy(x.Own, 1, 2, 3, 4)
			o.S, o.I, o.Cells = roomy(o.S, 4, 4), roomy(o.I, 4, 0), roomy(o.Cells, "behind", strings.Repeat("b", 300))
			lists, texts := wholes(x, o)
			r := p.as(x, o)
			now, nowTexts := wholes(x, o)
			if !slices.EqualFunc(lists, now, slices.Equal) || !slices.Equal(texts, nowTexts) {
				t.Fatal("an argument is changed:", shown(x), shown(o))
			}
			spoilRows(r.Rows)
			spoil(r.Uses, -7)
			if now, nowTexts = wholes(x, o); !slices.EqualFunc(lists, now, slices.Equal) || !slices.Equal(texts, nowTexts) {
				t.Fatal("an answer and an argument share memory:", shown(x), shown(o))
			}
			for _, l := range [][]int{x.Label.S, x.Label.I, x.Own, o.S, o.I} {
				spoil(l, -7)
			}
			spoil(o.Cells, "spoilt")
			loaded := api.Row{Key: d.key(), Cells: roomy(d.cells(), "b"), Label: api.Label{S: roomy(d.set(), 0), I: roomy(d.set(), 0)}, Who: 1}
			before := clone(loaded)
			if d.Intn(5) == 0 && p.b.load(loaded) != p.s.Load(loaded) {
				t.Fatal(shown(loaded))
			}
			if !sameRow(loaded, before) || slices.ContainsFunc(loaded.Label.S[:cap(loaded.Label.S)][len(loaded.Label.S):], func(c int) bool { return c != 0 }) {
				t.Fatal("a row that is loaded is changed:", shown(loaded))
			}
			spoilRows([]api.Row{loaded})
			c := p.s.Copy()
			spoilRows(p.s.Rows())
			spoilRows(p.s.View(anyone(0, upTo(4), nil, nil)))
			p.stands()
			(&pair{t: t, s: c, b: p.b}).stands()
		}
	}
}

// No two lists of one answer share memory: each in turn is spoilt, and the
// others stay.
func TestListsApart(t *testing.T) {
	p := made(t, 3, 1000, several()...)
	x := anyone(0, upTo(9), nil, []int{256})
	for what, ask := range map[string]func() []api.Row{
		"Rows": p.s.Rows,
		"View": func() []api.Row { return p.s.View(x) },
		"get":  func() []api.Row { return p.s.Do(x, api.Op{Kind: api.OpGet, Key: "a"}).Rows },
		"scan": func() []api.Row { return p.s.Do(x, api.Op{Kind: api.OpScan, Most: 256}).Rows },
	} {
		rows, want := ask(), ask()
		if len(rows) < 5 {
			t.Fatal(what, shown(rows))
		}
		for i, r := range rows {
			for _, spoilOne := range []func(r *api.Row){
				func(r *api.Row) { spoil(r.Cells, "spoilt"); r.Cells = nil },
				func(r *api.Row) { spoil(r.Label.S, -7); r.Label.S = nil },
				func(r *api.Row) { spoil(r.Label.I, -7); r.Label.I = nil },
			} {
				spoilOne(&r)
				spoilOne(&want[i])
				rows[i] = r
				if !sameRows(rows, want) {
					t.Fatalf("%s: lists of %d share memory", what, i)
				}
			}
		}
	}
	p.stands()
}

// overlaps tells whether two texts share memory.
func overlaps(a, b string) bool {
	if len(a) < 2 || len(b) < 2 { // of a single byte there is one text for all
		return false
	}
	p, q := uintptr(unsafe.Pointer(unsafe.StringData(a))), uintptr(unsafe.Pointer(unsafe.StringData(b)))
	return p < q+uintptr(len(b)) && q < p+uintptr(len(a))
}

// R3, of texts: those of an answer are new.
func TestTextsAreNew(t *testing.T) {
	key, cell := strings.Repeat("k", 9), strings.Repeat("c", 9)
	texts := func(rows []api.Row) []string {
		var out []string
		for _, r := range rows {
			out = append(append(out, r.Key), r.Cells...)
		}
		return out
	}
	x := anyone(0, nil, nil, nil)
	for _, fill := range []func(s *store.Store){
		func(s *store.Store) { s.Load(api.Row{Key: key, Cells: []string{cell, cell}}) },
		func(s *store.Store) {
			s.Do(x, api.Op{Kind: api.OpInsert, Key: key, Cells: []string{cell, cell}})
		},
		func(s *store.Store) {
			s.Load(api.Row{Key: key})
			s.Do(x, api.Op{Kind: api.OpUpdate, Key: key, Cells: []string{cell, cell}})
		},
	} {
		s := made(t, 1, 1000).s
		fill(s)
		all := []string{key, cell}
		for range 2 {
			for _, rows := range [][]api.Row{s.Rows(), s.View(x), s.Do(x, api.Op{Kind: api.OpGet, Key: key}).Rows, s.Do(x, api.Op{Kind: api.OpScan, Most: 9}).Rows, s.Copy().Rows()} {
				if len(texts(rows)) != 3 {
					t.Fatal(shown(rows))
				}
				for _, text := range texts(rows) {
					if slices.ContainsFunc(all, func(other string) bool { return overlaps(text, other) }) {
						t.Fatalf("%q is not new", text)
					}
					all = append(all, text)
				}
			}
		}
	}
}

// R3: nil and the empty list are the same.
func TestEmptyLists(t *testing.T) {
	none, nones := []int{}, []string{}
	p := made(t, 1, 1000)
	full := anyone(0, none, none, none)
	p.tells(full, api.Op{Kind: api.OpInsert, Key: "k", S: none, I: none, Cells: nones}, api.OK)
	for _, x := range []api.Subject{full, anyone(0, nil, nil, nil)} {
		for _, s := range [][]int{nil, none} {
			p.tells(x, api.Op{Kind: api.OpInsert, Key: "k", S: s}, api.ErrKey)
			p.load(api.Row{Key: "k", Label: api.Label{S: s}}, api.ErrKey)
			p.tells(x, api.Op{Kind: api.OpUpdate, Key: "k", S: s}, api.OK)
			p.tells(x, api.Op{Kind: api.OpDelete, Key: "k", S: s}, api.OK)
			p.tells(x, api.Op{Kind: api.OpInsert, Key: "k", S: s, I: s, Cells: nones}, api.OK)
		}
	}
	p.stands()
}

// R4: the same calls tell the same again, and stores know nothing of one
// another, also of many at one time.
func TestAgain(t *testing.T) {
	runs := make([][]api.Result, 8)
	var group sync.WaitGroup
	for w := range runs {
		group.Go(func() {
			d := draws(5, 2)
			s, _ := store.New(2, 300)
			for range 3000 {
				runs[w] = append(runs[w], s.Do(d.subject(), d.op()))
			}
			runs[w] = append(runs[w], api.Result{Rows: s.Rows(), Uses: []int{s.Used(0), s.Used(1)}})
		})
	}
	group.Wait()
	for w, run := range runs {
		if !slices.EqualFunc(run, runs[0], sameResult) {
			t.Error("another run tells something else:", w)
		}
	}
}
