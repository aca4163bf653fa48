package store_test

import (
	"cloister/api"
	"cloister/store"
	"cmp"
	"fmt"
	"math"
	"math/rand"
	"slices"
	"strings"
	"testing"
)

const greatest = 1<<31 - 1 // category, quota

// book is a store told by the chapter's words: rows in a list, in no order, and
// sets that are asked one by one.
type book struct {
	users int
	quota int
	rows  []api.Row
}

func isCats(l []int) bool {
	for i, c := range l {
		if c < 1 || c > greatest || i > 0 && c <= l[i-1] {
			return false
		}
	}
	return true
}

func isSet(l []int) bool { return isCats(l) && len(l) <= 64 }

func isKey(s string) bool { return s != "" && len(s) <= 64 }

func areCells(l []string) bool {
	for _, c := range l {
		if len(c) > 256 {
			return false
		}
	}
	return len(l) <= 8
}

// without is what is in none of the others.
func without(l []int, others ...[]int) []int {
	var out []int
	for _, c := range l {
		if !slices.ContainsFunc(others, func(o []int) bool { return slices.Contains(o, c) }) {
			out = append(out, c)
		}
	}
	return out
}

func sees(x api.Subject, s []int) bool { return len(without(s, x.Label.S, x.Own)) == 0 }

func mayWriteAt(x api.Subject, s []int) bool { return len(without(x.Label.S, s, x.Own)) == 0 }

func vouches(x api.Subject, i []int) bool { return len(without(i, x.Label.I, x.Own)) == 0 }

func size(r api.Row) int { return len(r.Key) + len(strings.Join(r.Cells, "")) + 16 }

func inOrder(a, b api.Row) int {
	return cmp.Or(cmp.Compare(a.Key, b.Key), slices.Compare(a.Label.S, b.Label.S))
}

// at is where the row of a key and a secrecy stands in the list; -1: nowhere.
func (b *book) at(key string, s []int) int {
	return slices.IndexFunc(b.rows, func(r api.Row) bool { return r.Key == key && slices.Equal(r.Label.S, s) })
}

func (b *book) used(who int) int {
	sum := 0
	for _, r := range b.rows {
		if r.Who == who && who >= 0 {
			sum += size(r)
		}
	}
	return sum
}

func (b *book) all(wanted func(r api.Row) bool) []api.Row {
	var out []api.Row
	for _, r := range b.rows {
		if wanted(r) {
			out = append(out, clone(r))
		}
	}
	slices.SortFunc(out, inOrder)
	return out
}

func (b *book) view(x api.Subject) []api.Row {
	return b.all(func(r api.Row) bool { return sees(x, r.Label.S) })
}

func (b *book) load(r api.Row) api.Errno {
	switch {
	case !isKey(r.Key) || !areCells(r.Cells) || !isSet(r.Label.S) || !isSet(r.Label.I) || r.Who < -1 || r.Who >= b.users:
		return api.ErrRow
	case b.at(r.Key, r.Label.S) >= 0:
		return api.ErrKey
	}
	b.rows = append(b.rows, clone(r))
	return api.OK
}

func (b *book) do(x api.Subject, o api.Op) api.Result {
	switch {
	case x.Who < 0 || x.Who >= b.users || !isCats(x.Own):
		return api.Result{Err: api.ErrArg}
	case !isSet(x.Label.S) || !isSet(x.Label.I):
		return api.Result{Err: api.ErrLabel}
	case o.Kind == api.OpInsert:
		return b.insert(x, o)
	case o.Kind == api.OpUpdate || o.Kind == api.OpDelete:
		return b.change(x, o)
	case o.Kind == api.OpGet && !isKey(o.Key):
		return api.Result{Err: api.ErrRow}
	case o.Kind == api.OpGet:
		return api.Result{Rows: b.all(func(r api.Row) bool { return r.Key == o.Key && sees(x, r.Label.S) })}
	case o.Kind == api.OpScan && o.Most >= 0 && o.Most <= 256:
		l := b.all(func(r api.Row) bool {
			return r.Key >= o.Key && (o.To == "" || r.Key < o.To) && sees(x, r.Label.S)
		})
		return api.Result{Rows: l[:min(len(l), o.Most)]}
	}
	return api.Result{Err: api.ErrArg}
}

func (b *book) insert(x api.Subject, o api.Op) api.Result {
	r := clone(api.Row{Key: o.Key, Cells: o.Cells, Label: api.Label{S: o.S, I: o.I}, Who: x.Who})
	switch {
	case !isSet(o.S) || !isSet(o.I):
		return api.Result{Err: api.ErrLabel}
	case !isKey(o.Key) || !areCells(o.Cells):
		return api.Result{Err: api.ErrRow}
	case !sees(x, o.S) || !mayWriteAt(x, o.S) || !vouches(x, o.I):
		return api.Result{Err: api.ErrDeny}
	case b.at(o.Key, o.S) >= 0:
		return api.Result{Err: api.ErrKey}
	case b.used(x.Who)+size(r) > b.quota:
		return api.Result{Err: api.ErrQuota}
	}
	b.rows = append(b.rows, r)
	return api.Result{Uses: without(x.Label.S, o.S)}
}

func (b *book) change(x api.Subject, o api.Op) api.Result {
	at := b.at(o.Key, o.S)
	switch {
	case !isSet(o.S):
		return api.Result{Err: api.ErrLabel}
	case !isKey(o.Key) || o.Kind == api.OpUpdate && !areCells(o.Cells):
		return api.Result{Err: api.ErrRow}
	case at < 0 || !sees(x, o.S):
		return api.Result{Err: api.ErrNone}
	case !mayWriteAt(x, o.S) || !vouches(x, b.rows[at].Label.I):
		return api.Result{Err: api.ErrDeny}
	}
	old := b.rows[at]
	b.rows = slices.Delete(slices.Clone(b.rows), at, at+1)
	if o.Kind == api.OpUpdate {
		r := clone(api.Row{Key: o.Key, Cells: o.Cells, Label: old.Label, Who: x.Who})
		// What is used without the old row is what the others are counted as.
		if b.used(x.Who)+size(r) > b.quota {
			b.rows = append(b.rows, old)
			return api.Result{Err: api.ErrQuota}
		}
		b.rows = append(b.rows, r)
	}
	return api.Result{Uses: without(x.Label.S, o.S)}
}

func (b *book) copy() *book {
	return &book{users: b.users, quota: b.quota, rows: b.all(func(api.Row) bool { return true })}
}

// clone is a row that shares no lists with the first one.
func clone(r api.Row) api.Row {
	r.Cells, r.Label.S, r.Label.I = slices.Clone(r.Cells), slices.Clone(r.Label.S), slices.Clone(r.Label.I)
	return r
}

func sameRow(a, b api.Row) bool {
	return a.Key == b.Key && a.Who == b.Who && slices.Equal(a.Cells, b.Cells) && slices.Equal(a.Label.S, b.Label.S) && slices.Equal(a.Label.I, b.Label.I)
}

func sameRows(a, b []api.Row) bool { return slices.EqualFunc(a, b, sameRow) }

func sameResult(a, b api.Result) bool {
	return a.Err == b.Err && sameRows(a.Rows, b.Rows) && slices.Equal(a.Uses, b.Uses)
}

// shown is a value's text, cut off if it is long.
func shown(v any) string {
	s := fmt.Sprintf("%+v", v)
	return s[:min(len(s), 400)]
}

// person is a user's subject: its own secrecy, and what it owns.
func person(who int, own ...int) api.Subject {
	return api.Subject{Who: who, Label: api.Label{S: []int{2*who + 1}}, Own: own}
}

// anyone is a subject with a secrecy, an integrity, and what it owns.
func anyone(who int, s, i, own []int) api.Subject {
	return api.Subject{Who: who, Label: api.Label{S: s, I: i}, Own: own}
}

// viewers see this and that.
func viewers() []api.Subject {
	return []api.Subject{
		{}, person(0), person(1), person(0, 1, 2), person(0, 2, 3), anyone(0, []int{1, 3}, nil, nil), anyone(1, nil, nil, []int{1, 2, 3, 4, 5}),
		anyone(0, []int{1, 2, 3}, []int{4}, []int{5, 6, 7, 8}), anyone(0, []int{5}, nil, nil), anyone(0, nil, []int{1, 3}, nil),
	}
}

// pair is a store, and the book that it is held against.
type pair struct {
	t *testing.T
	s *store.Store
	b *book
}

func made(t *testing.T, users, quota int, rows ...api.Row) *pair {
	t.Helper()
	s, e := store.New(users, quota)
	if e != api.OK || s == nil {
		t.Fatalf("New(%d, %d): %v %v", users, quota, s, e)
	}
	p := &pair{t: t, s: s, b: &book{users: users, quota: quota}}
	p.stands()
	for _, r := range rows {
		p.load(r, api.OK)
	}
	return p
}

// stands holds all that the store tells against the book.
func (p *pair) stands() {
	p.t.Helper()
	if got, want := p.s.Rows(), p.b.all(func(api.Row) bool { return true }); !sameRows(got, want) {
		p.t.Fatalf("Rows: %s; want %s", shown(got), shown(want))
	}
	for who := -2; who < 18; who++ {
		if got, want := p.s.Used(who), p.b.used(who); got != want {
			p.t.Fatalf("Used(%d): %d; want %d", who, got, want)
		}
	}
	for _, x := range viewers() {
		if got, want := p.s.View(x), p.b.view(x); !sameRows(got, want) {
			p.t.Fatalf("View(%s): %s; want %s", shown(x), shown(got), shown(want))
		}
	}
}

// load loads a row in both, with that error.
func (p *pair) load(r api.Row, want api.Errno) {
	p.t.Helper()
	if told := p.b.load(r); told != want {
		p.t.Fatalf("the book tells %v of %s; want %v", told, shown(r), want)
	}
	if got := p.s.Load(r); got != want {
		p.t.Fatalf("Load(%s): %v; want %v", shown(r), got, want)
	}
}

// as does an operation in both, which must tell the same.
func (p *pair) as(x api.Subject, o api.Op) api.Result {
	p.t.Helper()
	want := p.b.do(x, o)
	got := p.s.Do(x, o)
	if !sameResult(got, want) {
		p.t.Fatalf("Do(%s, %s): %s; want %s", shown(x), shown(o), shown(got), shown(want))
	}
	return got
}

// tells does an operation that has that error.
func (p *pair) tells(x api.Subject, o api.Op, want api.Errno) api.Result {
	p.t.Helper()
	got := p.as(x, o)
	if got.Err != want {
		p.t.Fatalf("Do(%s, %s): %v; want %v", shown(x), shown(o), got.Err, want)
	}
	return got
}

// keys are those of rows, with their secrecies.
func keys(rows []api.Row) string {
	var out []string
	for _, r := range rows {
		out = append(out, r.Key+fmt.Sprint(r.Label.S))
	}
	return strings.Join(out, " ")
}

// cells are n of them, each of so many bytes.
func cells(n, size int) []string {
	var out []string
	for i := range n {
		out = append(out, strings.Repeat(string([]byte{byte('a' + i%26)}), size))
	}
	return out
}

func upTo(n int) []int {
	var out []int
	for c := range n {
		out = append(out, c+1)
	}
	return out
}

func badSets() [][]int {
	return [][]int{{0}, {-1}, {1, 1}, {2, 1}, {1, 3, 2}, {greatest + 1}, {1, greatest + 1}, {1 << 32}, {1<<32 + 1}, {math.MinInt}, {math.MaxInt}, upTo(65), upTo(128)}
}

// badOwns are lists that are no sets of categories; how many there are is free.
func badOwns() [][]int {
	return [][]int{{0}, {-1}, {1, 1}, {2, 1}, {1, 3, 2}, {greatest + 1}, {1, greatest + 1}, {1 << 32}, {math.MinInt}, {math.MaxInt}, append(upTo(65), 65)}
}

func badKeys() []string {
	return []string{"", strings.Repeat("k", 65), strings.Repeat("\x00", 65), strings.Repeat("k", 1<<20)}
}

func badCells() [][]string {
	return [][]string{cells(9, 0), cells(9, 256), cells(1, 257), {"", strings.Repeat("a", 257)}, cells(8, 257), cells(1<<16, 0), {strings.Repeat("a", 1<<20)}}
}

func kinds() []int {
	return []int{api.OpInsert, api.OpUpdate, api.OpDelete, api.OpGet, api.OpScan}
}

func badKinds() []int {
	return []int{0, 6, 7, -1, -5, 100, 1<<32 + 1, math.MinInt, math.MaxInt}
}

// drawer draws subjects and operations of a small world, in which something
// stands nearly everywhere.
type drawer struct {
	*rand.Rand
	users int
	// What may not be, of each kind.
	sets  [][]int
	keys  []string
	lists [][]string
}

func draws(seed int64, users int) drawer {
	return drawer{Rand: rand.New(rand.NewSource(seed)), users: users, sets: badSets(), keys: badKeys()[:3], lists: badCells()[:5]}
}

func (d drawer) set() []int {
	var out []int
	for c := 1; c <= 4; c++ {
		if d.Intn(3) == 0 {
			out = append(out, c)
		}
	}
	if d.Intn(60) == 0 {
		return d.sets[d.Intn(len(d.sets))]
	}
	return out
}

func (d drawer) key() string {
	if d.Intn(60) == 0 {
		return d.keys[d.Intn(len(d.keys))]
	}
	return []string{"a", "a\x00", "ab", "b"}[d.Intn(4)]
}

func (d drawer) cells() []string {
	if d.Intn(60) == 0 {
		return d.lists[d.Intn(len(d.lists))]
	}
	return cells(d.Intn(3), d.Intn(9))
}

func (d drawer) who() int {
	if d.Intn(60) == 0 {
		return d.Intn(2)*(d.users+1) - 1
	}
	return d.Intn(d.users)
}

func (d drawer) subject() api.Subject {
	return anyone(d.who(), d.set(), d.set(), d.set())
}

func (d drawer) op() api.Op {
	o := api.Op{Kind: 1 + d.Intn(5), Key: d.key(), S: d.set(), I: d.set(), Cells: d.cells(), To: d.key(), Most: d.Intn(9)}
	switch d.Intn(60) {
	case 0:
		o.Kind = 6 * d.Intn(2)
	case 1:
		o.Most = d.Intn(2)*258 - 1
	case 2, 3, 4, 5, 6:
		o.To = ""
	}
	return o
}
