package store_test

import (
	"cloister/api"
	"cloister/store"
	"fmt"
	"math"
	"math/rand"
	"slices"
	"strings"
	"testing"
)

func TestExamples(t *testing.T) {
	p := made(t, 2, 1000)
	k := api.Op{Kind: api.OpInsert, Key: "k"}
	at := func(o api.Op, s ...int) api.Op { o.S = s; return o }
	get := api.Op{Kind: api.OpGet, Key: "k"}
	p.tells(person(0), at(k, 1), api.OK)
	if r := p.tells(person(1), get, api.OK); len(r.Rows) != 0 {
		t.Error(r)
	}
	p.tells(person(1), at(k, 3), api.OK)
	if r := p.tells(person(0, 1), k, api.OK); !slices.Equal(r.Uses, []int{1}) || r.Rows != nil {
		t.Error(r)
	}
	if r := p.tells(person(0), get, api.OK); keys(r.Rows) != "k[] k[1]" || len(r.Uses) != 0 {
		t.Error(r)
	}
	if r := p.tells(person(1), get, api.OK); keys(r.Rows) != "k[] k[3]" || len(r.Uses) != 0 {
		t.Error(r)
	}
	p.tells(person(0, 2), at(k, 1, 3), api.ErrDeny)
	p.stands()
}

func TestNew(t *testing.T) {
	users := map[int]bool{1: true, 2: true, 15: true, 16: true}
	for _, n := range []int{math.MinInt, -16, -1, 0, 17, 18, 256, 1 << 32, 1<<32 + 1, math.MaxInt} {
		users[n] = false
	}
	quotas := map[int]bool{0: true, 1: true, 16: true, 17: true, greatest - 1: true, greatest: true}
	for _, q := range []int{math.MinInt, -greatest, -2, -1, greatest + 1, greatest + 2, 1 << 32, 1<<32 + 1, math.MaxInt} {
		quotas[q] = false
	}
	for n, good := range users {
		for q, fine := range quotas {
			if good && fine {
				made(t, n, q)
			} else if s, e := store.New(n, q); s != nil || e != api.ErrArg {
				t.Errorf("New(%d, %d): %v %v", n, q, s, e)
			}
		}
	}
}

// Which users there are: those that New was told, in Load and in Do.
func TestUsers(t *testing.T) {
	for _, users := range []int{1, 2, 15, 16} {
		p := made(t, users, 1000)
		for _, who := range []int{math.MinInt, -3, -2, -1, 0, 1, users - 1, users, users + 1, 15, 16, 17, 1 << 32, math.MaxInt} {
			of := fmt.Sprint(who)
			loaded, done := api.OK, api.OK
			if who < -1 || who >= users {
				loaded = api.ErrRow
			} else if p.b.at(of, nil) >= 0 {
				loaded = api.ErrKey
			}
			p.load(api.Row{Key: of, Who: who}, loaded)
			if who < 0 || who >= users {
				done = api.ErrArg
			} else if p.b.at("x"+of, nil) >= 0 {
				done = api.ErrKey
			}
			p.tells(anyone(who, nil, nil, nil), api.Op{Kind: api.OpInsert, Key: "x" + of}, done)
			if done != api.ErrKey {
				for _, kind := range kinds()[1:] {
					p.tells(anyone(who, nil, nil, nil), api.Op{Kind: kind, Key: "x" + of}, done)
				}
			}
		}
		p.stands()
	}
}

func TestLoad(t *testing.T) {
	good := api.Row{Key: "k", Cells: []string{"a", ""}, Label: api.Label{S: []int{1}, I: []int{2}}, Who: 1}
	for _, stands := range []bool{false, true} { // a row that may not be is refused also where one stands
		p := made(t, 2, 40)
		if stands {
			p.load(good, api.OK)
		}
		wrong := func(change func(r *api.Row)) {
			t.Helper()
			r := clone(good)
			change(&r)
			p.load(r, api.ErrRow)
		}
		for _, key := range badKeys() {
			wrong(func(r *api.Row) { r.Key = key })
		}
		for _, c := range badCells() {
			wrong(func(r *api.Row) { r.Cells = c })
		}
		for _, s := range badSets() {
			wrong(func(r *api.Row) { r.Label.S = s })
			wrong(func(r *api.Row) { r.Label.I = s })
		}
		for _, who := range []int{-2, 2, 3, 15, 16, math.MinInt, math.MaxInt} {
			wrong(func(r *api.Row) { r.Who = who })
		}
		p.stands()
	}
	p := made(t, 2, 40, good)
	// The same key and secrecy, whatever else is other.
	for _, r := range []api.Row{good, {Key: "k", Label: api.Label{S: []int{1}}}, {Key: "k", Label: api.Label{S: []int{1}, I: []int{9}}, Cells: cells(8, 256), Who: -1}} {
		p.load(r, api.ErrKey)
		p.stands()
	}
	// One key at several secrecies, also beyond the quota, whoever's.
	for i, s := range [][]int{nil, {2}, {1, 2}, {greatest}, upTo(64), {3}} {
		p.load(api.Row{Key: "k", Cells: cells(8, 256), Label: api.Label{S: s}, Who: i%3 - 1}, api.OK)
		p.stands()
	}
	if p.s.Used(0) != 2*(1+2048+16) || p.s.Used(1) != 2*(1+2048+16)+18 || p.s.Used(-1) != 0 || p.s.Used(2) != 0 {
		t.Error(p.s.Used(0), p.s.Used(1), p.s.Used(-1), p.s.Used(2))
	}
	p.load(api.Row{Key: strings.Repeat("\xff", 64), Cells: cells(8, 256), Label: api.Label{S: upTo(64), I: upTo(64)}, Who: 0}, api.OK)
	p.load(api.Row{Key: "\x00", Who: -1}, api.OK)
	p.stands()
}

// several are rows of keys that begin alike, at several secrecies.
func several() []api.Row {
	var out []api.Row
	for i, key := range []string{"a", "a\x00", "a\x00\x00", "a\x01", "aa", "ab", "b", "\x00", "\xff", strings.Repeat("a", 64), strings.Repeat("a", 63) + "b", strings.Repeat("\xff", 64)} {
		for j, s := range [][]int{nil, {1}, {1, 2}, {1, 3}, {2}, {3}, {256}, {65536, greatest}} {
			out = append(out, api.Row{Key: key, Cells: []string{fmt.Sprint(i, j)}, Label: api.Label{S: s, I: []int{i + 1}}, Who: (i+j)%4 - 1})
		}
	}
	return out
}

func mixed[T any](l []T, seed int64) []T {
	out := slices.Clone(l)
	rand.New(rand.NewSource(seed)).Shuffle(len(out), func(i, j int) { out[i], out[j] = out[j], out[i] })
	return out
}

func TestOrder(t *testing.T) {
	for seed := range int64(5) {
		p := made(t, 3, 0)
		for _, r := range mixed(several(), seed) {
			p.load(r, api.OK)
			p.stands()
		}
		for _, r := range mixed(several(), seed+5) {
			p.load(r, api.ErrKey)
		}
		p.stands()
	}
}

// As many rows as may be, around the numbers at which something inside could
// turn.
func TestMany(t *testing.T) {
	for _, n := range []int{1, 2, 15, 16, 17, 31, 32, 33, 63, 64, 65, 96, 127, 128, 129, 255, 256, 257, 511, 512, 513, 1000} {
		p := made(t, 1, 0)
		for _, i := range rand.New(rand.NewSource(int64(n))).Perm(n) {
			p.load(api.Row{Key: fmt.Sprintf("%04d", i/3), Label: api.Label{S: upTo(i % 3)}, Who: 0}, api.OK)
		}
		p.stands()
		for _, x := range viewers() {
			x.Who = 0
			p.as(x, api.Op{Kind: api.OpScan, Most: 256})
			p.as(x, api.Op{Kind: api.OpScan, Key: fmt.Sprintf("%04d", n/6), Most: 256})
			p.as(x, api.Op{Kind: api.OpGet, Key: fmt.Sprintf("%04d", n/6)})
		}
	}
}

// View asks for what is seen alone, not for who asks; lists count as their
// sets.
func TestView(t *testing.T) {
	p := made(t, 3, 0, several()...)
	for _, who := range []int{-1, 0, 2, 3, 16, math.MinInt, math.MaxInt} {
		for _, x := range viewers() {
			x.Who = who
			if got, want := p.s.View(x), p.b.view(x); !sameRows(got, want) || len(got) == 0 {
				t.Errorf("View(%s): %s; want %s", shown(x), keys(got), keys(want))
			}
		}
	}
	for _, l := range [][]int{{3, 1}, {1, 1, 3}, {0, 3, -1, 1}, append([]int{3, 1, math.MaxInt}, upTo(70)...)} {
		for _, x := range []api.Subject{anyone(0, l, nil, nil), anyone(0, nil, nil, l), anyone(0, l, l, l)} {
			if got, want := p.s.View(x), p.b.view(x); !sameRows(got, want) || len(got) == 0 {
				t.Errorf("View(%s): %s; want %s", shown(x), keys(got), keys(want))
			}
		}
	}
	if got := made(t, 1, 0).s.View(person(0)); len(got) != 0 {
		t.Error(got)
	}
}

// Whose Who is no user, whose Own is no set: ErrArg; whose label may not be:
// ErrLabel; then the kind: ErrArg; only then what is asked for.
func TestSubjects(t *testing.T) {
	rows := []api.Row{{Key: "k", Label: api.Label{S: []int{1}}, Who: 0}}
	p := made(t, 2, 0, rows...)
	ops := []api.Op{{Key: "k", S: []int{1}, Most: 1}, {Key: "", S: []int{0}, I: []int{0}, Cells: cells(9, 0), Most: -1}, {Key: "new", S: []int{1}}}
	for _, kind := range append(kinds(), badKinds()...) {
		for _, o := range ops {
			o.Kind = kind
			var wrong [][]int
			wrong = append(wrong, badOwns()...)
			for _, own := range append(wrong, nil, []int{1}) {
				for _, who := range []int{math.MinInt, -2, -1, 2, 3, 15, 16, 1 << 32, math.MaxInt} {
					p.tells(anyone(who, []int{1}, nil, own), o, api.ErrArg)
					p.tells(anyone(who, []int{0}, nil, own), o, api.ErrArg)
				}
			}
			for _, own := range badOwns() {
				p.tells(anyone(0, []int{1}, nil, own), o, api.ErrArg)
				p.tells(anyone(0, []int{2, 1}, []int{0}, own), o, api.ErrArg)
			}
			for _, s := range badSets() {
				p.tells(anyone(0, s, nil, []int{1}), o, api.ErrLabel)
				p.tells(anyone(1, []int{1}, s, nil), o, api.ErrLabel)
			}
			if slices.Contains(badKinds(), kind) {
				p.tells(anyone(0, []int{1}, nil, nil), o, api.ErrArg)
				p.tells(anyone(1, upTo(64), upTo(64), upTo(1000)), o, api.ErrArg)
			}
		}
	}
	p.stands()
}

// What is owned may be more than a label's set holds.
func TestManyOwned(t *testing.T) {
	own := append(upTo(300), greatest)
	p := made(t, 2, 1000, api.Row{Key: "a", Label: api.Label{S: []int{200, 299}, I: []int{300, greatest}}, Who: 1})
	x := anyone(0, []int{150, 250}, nil, own)
	for _, o := range []api.Op{
		{Kind: api.OpGet, Key: "a"}, {Kind: api.OpScan, Most: 9}, {Kind: api.OpUpdate, Key: "a", S: []int{200, 299}},
		{Kind: api.OpInsert, Key: "b", S: []int{greatest}, I: []int{greatest}}, {Kind: api.OpInsert, Key: "b", S: upTo(64), I: upTo(64)}, {Kind: api.OpDelete, Key: "a", S: []int{200, 299}},
	} {
		p.tells(x, o, api.OK)
		p.stands()
	}
	if r := p.tells(x, api.Op{Kind: api.OpInsert, Key: "c", S: []int{250}}, api.OK); !slices.Equal(r.Uses, []int{150}) {
		t.Error(r)
	}
}

// subsets are all lists of what stands in one.
func subsets[T any](l []T) [][]T {
	out := [][]T{nil}
	for _, x := range l {
		for _, s := range slices.Clone(out) {
			out = append(out, append(slices.Clone(s), x))
		}
	}
	return out
}

// asking is what is asked, of whom, in a store with which rows.
type asking struct {
	x    api.Subject
	o    api.Op
	rows []api.Row
}

// fault is what makes a case one that is refused.
type fault struct {
	err  api.Errno
	make func(c *asking)
}

// firstOf asks each case that several faults make, of which the one that comes
// first must be told, and nothing may be changed.
func firstOf(t *testing.T, quota int, start func() asking, faults []fault) {
	t.Helper()
	for _, some := range subsets(faults) {
		c := start()
		want := api.OK
		for _, f := range some {
			f.make(&c)
			if want == api.OK {
				want = f.err
			}
		}
		p := made(t, 2, quota, c.rows...)
		p.tells(c.x, c.o, want)
		p.stands()
		if want != api.OK && len(p.s.Rows()) != len(c.rows) {
			t.Errorf("%s: %s: rows have changed", shown(c), shown(p.s.Rows()))
		}
	}
}

func TestInsertErrors(t *testing.T) {
	start := func() asking {
		return asking{x: anyone(0, []int{1}, []int{5}, []int{2}), o: api.Op{Kind: api.OpInsert, Key: "k", S: []int{1}, I: []int{2, 5}, Cells: []string{"abc"}}}
	}
	labels := []func(c *asking){
		func(c *asking) { c.o.S = []int{1, 1} }, func(c *asking) { c.o.I = []int{5, 2} }, func(c *asking) { c.o.S = upTo(65) }, func(c *asking) { c.o.I = []int{0} },
	}
	rows := []func(c *asking){
		func(c *asking) { c.o.Key = "" }, func(c *asking) { c.o.Key = strings.Repeat("k", 65) }, func(c *asking) { c.o.Cells = cells(9, 1) }, func(c *asking) { c.o.Cells = cells(1, 257) },
	}
	denies := []func(c *asking){
		func(c *asking) { c.x.Label.S = []int{1, 9} }, func(c *asking) { c.x.Label.I = []int{6} }, func(c *asking) { c.o.S = []int{1, 9} }, func(c *asking) { c.o.S = nil },
	}
	for _, l := range labels {
		for _, r := range rows {
			for _, d := range denies {
				firstOf(t, 20, start, []fault{
					{api.ErrLabel, l}, {api.ErrRow, r},
					{api.ErrDeny, func(c *asking) {
						s, i := c.o.S, c.o.I
						d(c)
						if !isSet(s) || !isSet(i) {
							c.o.S, c.o.I = s, i
						}
					}},
					{api.ErrKey, func(c *asking) {
						if isSet(c.o.S) && isKey(c.o.Key) {
							c.rows = append(c.rows, api.Row{Key: c.o.Key, Label: api.Label{S: c.o.S}, Who: 1})
						}
					}},
					{api.ErrQuota, func(c *asking) { c.rows = append(c.rows, api.Row{Key: "j", Who: 0}) }},
				})
			}
		}
	}
	// Of a subject first what its own fault is.
	firstOf(t, 20, start, []fault{
		{api.ErrArg, func(c *asking) { c.x.Who = 2 }}, {api.ErrArg, func(c *asking) { c.x.Own = []int{2, 2, 7} }},
		{api.ErrLabel, func(c *asking) { c.x.Label.I = []int{5, 0} }}, {api.ErrLabel, func(c *asking) { c.o.S = []int{2, 1} }}, {api.ErrRow, func(c *asking) { c.o.Key = "" }},
	})
}

func TestUpdateErrors(t *testing.T) {
	for _, kind := range []int{api.OpUpdate, api.OpDelete} {
		start := func() asking {
			return asking{
				x:    anyone(0, []int{1}, []int{5}, []int{2}),
				o:    api.Op{Kind: kind, Key: "k", S: []int{1}, Cells: []string{"abc"}},
				rows: []api.Row{{Key: "k", Label: api.Label{S: []int{1}, I: []int{2, 5}}, Who: 1}},
			}
		}
		denies := []func(c *asking){
			func(c *asking) { c.x.Label.S = append([]int{9}, c.x.Label.S...); slices.Sort(c.x.Label.S) },
			func(c *asking) { c.x.Label.I = nil },
			func(c *asking) { c.x.Own = nil },
		}
		nones := []func(c *asking){
			func(c *asking) { c.rows[0].Key = "other" },
			func(c *asking) { c.rows[0].Label.S = nil },
			func(c *asking) { c.rows[0].Label.S = []int{1, 3} },
			func(c *asking) { c.x.Label.S = nil }, // it is there, and not seen
			func(c *asking) { c.x.Label.S = []int{3} },
		}
		labels := []func(c *asking){func(c *asking) { c.o.S = []int{1, 1} }, func(c *asking) { c.o.S = []int{0} }, func(c *asking) { c.o.S = upTo(65) }}
		rows := []func(c *asking){func(c *asking) { c.o.Key = "" }, func(c *asking) { c.o.Key = strings.Repeat("k", 65) }}
		if kind == api.OpUpdate {
			rows = append(rows, func(c *asking) { c.o.Cells = cells(9, 1) }, func(c *asking) { c.o.Cells = cells(1, 257) })
		}
		for _, l := range labels {
			for _, r := range rows {
				for _, n := range nones {
					for _, d := range denies {
						faults := []fault{{api.ErrLabel, l}, {api.ErrRow, r}, {api.ErrNone, n}, {api.ErrDeny, d}}
						if kind == api.OpUpdate {
							faults = append(faults, fault{api.ErrQuota, func(c *asking) { c.rows = append(c.rows, api.Row{Key: "j", Who: 0}) }})
						}
						firstOf(t, 20, start, faults)
					}
				}
			}
		}
		// Of a subject first what its own fault is.
		firstOf(t, 20, start, []fault{
			{api.ErrArg, func(c *asking) { c.x.Who = -1 }}, {api.ErrArg, func(c *asking) { c.x.Own = []int{0} }},
			{api.ErrLabel, func(c *asking) { c.x.Label.S = []int{2, 1} }}, {api.ErrLabel, func(c *asking) { c.o.S = []int{2, 1} }}, {api.ErrRow, func(c *asking) { c.o.Key = "" }},
		})
	}
}

func TestGetErrors(t *testing.T) {
	p := made(t, 1, 0, api.Row{Key: strings.Repeat("k", 64)})
	x := anyone(0, nil, nil, nil)
	for _, key := range badKeys() {
		p.tells(x, api.Op{Kind: api.OpGet, Key: key}, api.ErrRow)
		p.tells(x, api.Op{Kind: api.OpScan, Key: key, Most: 1}, api.OK)
	}
	if r := p.tells(x, api.Op{Kind: api.OpGet, Key: strings.Repeat("k", 64)}, api.OK); len(r.Rows) != 1 {
		t.Error(r)
	}
	for _, most := range []int{math.MinInt, -greatest, -2, -1, 257, 258, 512, 1 << 32, 1<<32 + 1, math.MaxInt} {
		p.tells(x, api.Op{Kind: api.OpScan, Most: most}, api.ErrArg)
		p.tells(x, api.Op{Kind: api.OpScan, Key: "z", To: "a", Most: most}, api.ErrArg)
	}
}

// At which secrecy and integrity somebody may insert.
func TestInsertFlows(t *testing.T) {
	for _, c := range []struct {
		what string
		x    api.Subject
		s, i []int
		want api.Errno
		uses []int
	}{
		{"at its own secrecy", anyone(0, []int{1}, nil, nil), []int{1}, nil, api.OK, nil},
		{"at its own secrecy, which it owns", anyone(0, []int{1}, nil, []int{1}), []int{1}, nil, api.OK, nil},
		{"without secrecy at none", anyone(0, nil, nil, nil), nil, nil, api.OK, nil},
		{"without secrecy at none, owning", anyone(0, nil, nil, []int{1, 2}), nil, nil, api.OK, nil},
		{"below, owning what is left out", anyone(0, []int{1}, nil, []int{1}), nil, nil, api.OK, []int{1}},
		{"below, without owning", anyone(0, []int{1}, nil, nil), nil, nil, api.ErrDeny, nil},
		{"below, owning another one", anyone(0, []int{1}, nil, []int{2}), nil, nil, api.ErrDeny, nil},
		{"below, owning all", anyone(0, []int{1, 3, 5}, nil, []int{1, 2, 3, 5}), []int{3}, nil, api.OK, []int{1, 5}},
		{"below, owning some", anyone(0, []int{1, 3, 5}, nil, []int{1, 2}), []int{3}, nil, api.ErrDeny, nil},
		{"below, owning some that are enough", anyone(0, []int{1, 3, 5}, nil, []int{1}), []int{3, 5}, nil, api.OK, []int{1}},
		{"above, owning it", anyone(0, []int{1}, nil, []int{3}), []int{1, 3}, nil, api.OK, nil},
		{"above, without owning", anyone(0, []int{1}, nil, nil), []int{1, 3}, nil, api.ErrDeny, nil},
		{"above, owning what it has", anyone(0, []int{1}, nil, []int{1}), []int{1, 3}, nil, api.ErrDeny, nil},
		{"above none, owning it", anyone(0, nil, nil, []int{3}), []int{3}, nil, api.OK, nil},
		{"above none, having it as integrity", anyone(0, nil, []int{3}, nil), []int{3}, nil, api.ErrDeny, nil},
		{"beside, owning both", anyone(0, []int{1}, nil, []int{1, 3}), []int{3}, nil, api.OK, []int{1}},
		{"beside, owning its own", anyone(0, []int{1}, nil, []int{1}), []int{3}, nil, api.ErrDeny, nil},
		{"beside, owning the other one", anyone(0, []int{1}, nil, []int{3}), []int{3}, nil, api.ErrDeny, nil},
		{"with an integrity that it has", anyone(0, nil, []int{2}, nil), nil, []int{2}, api.OK, nil},
		{"with an integrity that it owns", anyone(0, nil, nil, []int{2}), nil, []int{2}, api.OK, nil},
		{"with an integrity that it has and owns", anyone(0, nil, []int{2}, []int{2}), nil, []int{2}, api.OK, nil},
		{"with one of neither", anyone(0, nil, []int{4}, []int{6}), nil, []int{2}, api.ErrDeny, nil},
		{"with one that is its secrecy", anyone(0, []int{2}, nil, nil), []int{2}, []int{2}, api.ErrDeny, nil},
		{"with one of each", anyone(0, nil, []int{2}, []int{4}), nil, []int{2, 4}, api.OK, nil},
		{"with one of each and of neither", anyone(0, nil, []int{2}, []int{4}), nil, []int{2, 4, 6}, api.ErrDeny, nil},
		{"with less than it has", anyone(0, nil, []int{2, 4}, nil), nil, []int{4}, api.OK, nil},
		{"below and vouching by what it owns", anyone(0, []int{1, 3}, nil, []int{1, 2}), []int{3}, []int{2}, api.OK, []int{1}},
		{"the greatest", anyone(0, []int{greatest}, nil, []int{greatest}), nil, []int{greatest}, api.OK, []int{greatest}},
		{"64 at none", anyone(0, upTo(64), nil, upTo(64)), nil, upTo(64), api.OK, upTo(64)},
		{"64 at 64 others", anyone(0, upTo(64), nil, upTo(128)), upTo(128)[64:], nil, api.OK, upTo(64)},
	} {
		p := made(t, 1, 1000)
		o := api.Op{Kind: api.OpInsert, Key: "k", S: c.s, I: c.i, Cells: []string{"", "b"}}
		got := p.tells(c.x, o, c.want)
		if !slices.Equal(got.Uses, c.uses) || got.Rows != nil {
			t.Errorf("%s: %s", c.what, shown(got))
		}
		p.stands()
		if c.want == api.OK && !sameRows(p.s.Rows(), []api.Row{{Key: "k", Cells: []string{"", "b"}, Label: api.Label{S: c.s, I: c.i}}}) {
			t.Errorf("%s: %s", c.what, shown(p.s.Rows()))
		}
	}
}

// What an update or a delete asks, and uses, of a row at each secrecy.
func TestChangeFlows(t *testing.T) {
	for _, c := range []struct {
		what string
		x    api.Subject
		s, i []int
		want api.Errno
		uses []int
	}{
		{"its own", anyone(0, []int{1}, nil, nil), []int{1}, nil, api.OK, nil},
		{"its own, which it owns", anyone(0, []int{1}, nil, []int{1}), []int{1}, nil, api.OK, nil},
		{"one below", anyone(0, []int{1}, nil, nil), nil, nil, api.ErrDeny, nil},
		{"one below, owning", anyone(0, []int{1}, nil, []int{1}), nil, nil, api.OK, []int{1}},
		{"one below, owning some", anyone(0, []int{1, 3}, nil, []int{1}), nil, nil, api.ErrDeny, nil},
		{"one below, owning enough", anyone(0, []int{1, 3}, nil, []int{1}), []int{3}, nil, api.OK, []int{1}},
		{"one above that it does not see", anyone(0, []int{1}, nil, nil), []int{1, 3}, nil, api.ErrNone, nil},
		{"one above that it sees", anyone(0, []int{1}, nil, []int{3}), []int{1, 3}, nil, api.OK, nil},
		{"one beside that it does not see", anyone(0, []int{1}, nil, []int{1}), []int{3}, nil, api.ErrNone, nil},
		{"one beside that it sees", anyone(0, []int{1}, nil, []int{3}), []int{3}, nil, api.ErrDeny, nil},
		{"one beside, owning both", anyone(0, []int{1}, nil, []int{1, 3}), []int{3}, nil, api.OK, []int{1}},
		{"with an integrity that it has", anyone(0, []int{1}, []int{2}, nil), []int{1}, []int{2}, api.OK, nil},
		{"with an integrity that it owns", anyone(0, []int{1}, nil, []int{2}), []int{1}, []int{2}, api.OK, nil},
		{"with one of neither", anyone(0, []int{1}, []int{4}, []int{6}), []int{1}, []int{2}, api.ErrDeny, nil},
		{"with one that is its secrecy", anyone(0, []int{2}, nil, nil), []int{2}, []int{2}, api.ErrDeny, nil},
		{"with one of each and of neither", anyone(0, nil, []int{2}, []int{4}), nil, []int{2, 4, 6}, api.ErrDeny, nil},
		{"that it does not see, with one of neither", anyone(0, nil, nil, nil), []int{1}, []int{2}, api.ErrNone, nil},
		{"below and vouching by what it owns", anyone(0, []int{1, 3}, nil, []int{1, 2}), []int{3}, []int{2}, api.OK, []int{1}},
	} {
		for _, kind := range []int{api.OpUpdate, api.OpDelete} {
			old := api.Row{Key: "k", Cells: []string{"old", "cells"}, Label: api.Label{S: c.s, I: c.i}, Who: 1}
			p := made(t, 2, 1000, old, api.Row{Key: "k", Label: api.Label{S: []int{99}}, Who: 1}, api.Row{Key: "j", Label: old.Label, Who: -1})
			// The operation's own I is not the row's.
			got := p.tells(c.x, api.Op{Kind: kind, Key: "k", S: c.s, I: []int{77}, Cells: []string{"new"}}, c.want)
			if !slices.Equal(got.Uses, c.uses) || got.Rows != nil {
				t.Errorf("%s: %s", c.what, shown(got))
			}
			p.stands()
			rows := slices.DeleteFunc(p.s.Rows(), func(r api.Row) bool { return r.Key != "k" || slices.Equal(r.Label.S, []int{99}) })
			want := []api.Row{old}
			if c.want == api.OK && kind == api.OpUpdate {
				want[0].Cells, want[0].Who = []string{"new"}, 0
			} else if c.want == api.OK {
				want = nil
			}
			if !sameRows(rows, want) {
				t.Errorf("%s: %s; want %s", c.what, shown(rows), shown(want))
			}
		}
	}
}

// A key that stands at a secrecy that is not seen does not stand in the way,
// nor is it told of.
func TestNotSeen(t *testing.T) {
	hidden := []api.Row{{Key: "k", Label: api.Label{S: []int{3}}, Who: 1}, {Key: "k", Label: api.Label{S: []int{1, 3}}, Who: 1}}
	p := made(t, 2, 1000, hidden...)
	x := person(0)
	for range 2 {
		for _, o := range []api.Op{{Kind: api.OpGet, Key: "k"}, {Kind: api.OpScan, Most: 256}} {
			if r := p.tells(x, o, api.OK); len(r.Rows) != 0 {
				t.Error(shown(r))
			}
		}
		for _, s := range [][]int{{3}, {1, 3}, {5}, {1, 5}, {1}, nil} {
			p.tells(x, api.Op{Kind: api.OpUpdate, Key: "k", S: s}, api.ErrNone)
			p.tells(x, api.Op{Kind: api.OpDelete, Key: "k", S: s}, api.ErrNone)
		}
		for _, s := range [][]int{{3}, {1, 3}, {5}, {1, 5}, nil} {
			p.tells(x, api.Op{Kind: api.OpInsert, Key: "k", S: s}, api.ErrDeny)
		}
		p.tells(x, api.Op{Kind: api.OpInsert, Key: "k", S: []int{1}}, api.OK)
		p.tells(x, api.Op{Kind: api.OpInsert, Key: "k", S: []int{1}}, api.ErrKey)
		p.tells(x, api.Op{Kind: api.OpDelete, Key: "k", S: []int{1}}, api.OK)
	}
	p.stands()
	// Once what it is at is owned, it is seen.
	p.tells(person(0, 3), api.Op{Kind: api.OpInsert, Key: "k", S: []int{1, 3}}, api.ErrKey)
	if r := p.tells(person(0, 3), api.Op{Kind: api.OpGet, Key: "k"}, api.OK); keys(r.Rows) != "k[1 3] k[3]" {
		t.Error(shown(r))
	}
}

func TestInsertQuota(t *testing.T) {
	x := anyone(0, nil, nil, nil)
	for _, c := range []struct {
		quota int
		sizes []int // of cells; the key and the row itself are 17
		want  []api.Errno
	}{
		{0, []int{0, 1}, []api.Errno{api.ErrQuota, api.ErrQuota}},
		{16, []int{0}, []api.Errno{api.ErrQuota}},
		{17, []int{1, 0, 0}, []api.Errno{api.ErrQuota, api.OK, api.ErrQuota}},
		{33, []int{0, 0}, []api.Errno{api.OK, api.ErrQuota}},
		{34, []int{1, 0, 0}, []api.Errno{api.OK, api.ErrQuota, api.ErrQuota}},
		{34, []int{0, 1, 0, 0}, []api.Errno{api.OK, api.ErrQuota, api.OK, api.ErrQuota}},
		{273, []int{256}, []api.Errno{api.OK}},
		{272, []int{256, 255}, []api.Errno{api.ErrQuota, api.OK}},
		{greatest, []int{256, 0, 256}, []api.Errno{api.OK, api.OK, api.OK}},
	} {
		p := made(t, 2, c.quota)
		for i, n := range c.sizes {
			got := p.tells(x, api.Op{Kind: api.OpInsert, Key: string([]byte{byte('a' + i)}), Cells: cells(1, n)}, c.want[i])
			if got.Uses != nil || got.Rows != nil {
				t.Error(shown(got))
			}
			p.stands()
		}
	}
	// Another one's rows, and nobody's, are not counted for it; what was
	// loaded is.
	p := made(t, 3, 17, api.Row{Key: "a", Who: 1, Cells: cells(8, 256)}, api.Row{Key: "b", Who: -1, Cells: cells(8, 256)})
	p.tells(x, api.Op{Kind: api.OpInsert, Key: "c"}, api.OK)
	p.tells(x, api.Op{Kind: api.OpInsert, Key: "d"}, api.ErrQuota)
	p.tells(anyone(1, nil, nil, nil), api.Op{Kind: api.OpInsert, Key: "d"}, api.ErrQuota)
	p.tells(anyone(2, nil, nil, nil), api.Op{Kind: api.OpInsert, Key: "d"}, api.OK)
	p.stands()
	// The greatest row.
	for _, quota := range []int{64 + 2048 + 16, 64 + 2048 + 15} {
		p := made(t, 1, quota)
		want := api.OK
		if quota < 2128 {
			want = api.ErrQuota
		}
		p.tells(anyone(0, nil, nil, upTo(64)), api.Op{Kind: api.OpInsert, Key: strings.Repeat("k", 64), Cells: cells(8, 256), S: upTo(64), I: upTo(64)}, want)
		p.stands()
	}
}

func TestUpdateQuota(t *testing.T) {
	x := anyone(0, nil, nil, nil)
	set := func(n int) api.Op { return api.Op{Kind: api.OpUpdate, Key: "k", Cells: cells(1, n)} }
	of := func(who, n int) api.Row { return api.Row{Key: "k", Cells: cells(1, n), Who: who} }
	more := func(who, n int) api.Row { return api.Row{Key: "more", Cells: cells(1, n), Who: who} } // 20 and n
	// Its own row, alone and beside another one of its own.
	p := made(t, 2, 50, of(0, 10))
	for _, c := range []struct {
		n    int
		want api.Errno
	}{{33, api.OK}, {34, api.ErrQuota}, {33, api.OK}, {0, api.OK}, {34, api.ErrQuota}, {256, api.ErrQuota}, {33, api.OK}} {
		p.tells(x, set(c.n), c.want)
		p.stands()
	}
	p.load(more(0, 0), api.OK) // 70 of 50 are used
	for _, c := range []struct {
		n    int
		want api.Errno
	}{{33, api.ErrQuota}, {14, api.ErrQuota}, {13, api.OK}, {14, api.ErrQuota}, {13, api.OK}, {0, api.OK}} {
		p.tells(x, set(c.n), c.want)
		p.stands()
	}
	// What is beyond the quota without the row can't be mended by the row.
	p = made(t, 2, 50, of(0, 10), more(0, 31))
	p.tells(x, set(0), api.ErrQuota)
	p.stands()
	p = made(t, 2, 50, of(0, 10), more(0, 13))
	p.tells(x, set(1), api.ErrQuota)
	p.tells(x, set(0), api.OK)
	p.stands()
	// A row that is taken over counts anew, whosever it was, and no longer for
	// the other one.
	for _, whose := range []int{1, -1} {
		p = made(t, 2, 50, of(whose, 200), more(0, 10), api.Row{Key: "x", Who: 1})
		p.tells(x, set(200), api.ErrQuota)
		p.tells(x, set(4), api.ErrQuota)
		p.stands()
		if r := p.tells(x, set(3), api.OK); r.Uses != nil || r.Rows != nil {
			t.Error(shown(r))
		}
		p.stands()
		if p.s.Used(0) != 50 || p.s.Used(1) != 17 {
			t.Error(whose, p.s.Used(0), p.s.Used(1))
		}
		p.tells(anyone(1, nil, nil, nil), set(17), api.ErrQuota)
		p.tells(anyone(1, nil, nil, nil), set(16), api.OK)
		p.stands()
	}
	// The quota 0: nothing may be made, what was loaded may go.
	p = made(t, 2, 0, of(0, 5))
	p.tells(x, set(0), api.ErrQuota)
	p.tells(x, set(5), api.ErrQuota)
	p.tells(x, api.Op{Kind: api.OpDelete, Key: "k"}, api.OK)
	p.tells(x, set(0), api.ErrNone)
	p.stands()
	// The greatest quota.
	p = made(t, 2, greatest, of(0, 5))
	p.tells(x, api.Op{Kind: api.OpUpdate, Key: "k", Cells: cells(8, 256)}, api.OK)
	p.stands()
}

func TestUpdate(t *testing.T) {
	x := anyone(1, []int{1}, nil, []int{2})
	p := made(t, 2, 10000, api.Row{Key: "k", Cells: cells(2, 3), Label: api.Label{S: []int{1}, I: []int{2}}, Who: 0})
	for _, c := range [][]string{nil, {}, {""}, {"a"}, cells(8, 256), cells(8, 0), {"\x00", "\xff"}, cells(1, 256), nil} {
		p.tells(x, api.Op{Kind: api.OpUpdate, Key: "k", S: []int{1}, Cells: c}, api.OK)
		p.stands()
		if got := p.s.Rows(); !sameRows(got, []api.Row{{Key: "k", Cells: c, Label: api.Label{S: []int{1}, I: []int{2}}, Who: 1}}) {
			t.Error(shown(got))
		}
	}
	for _, c := range badCells() {
		p.tells(x, api.Op{Kind: api.OpUpdate, Key: "k", S: []int{1}, Cells: c}, api.ErrRow)
	}
	// What is not there is not made.
	p.tells(x, api.Op{Kind: api.OpUpdate, Key: "j", S: []int{1}}, api.ErrNone)
	p.tells(x, api.Op{Kind: api.OpUpdate, Key: "k", S: nil}, api.ErrNone)
	p.stands()
}

// What is deleted is gone, and may be made anew, by others and with another
// label.
func TestDelete(t *testing.T) {
	p := made(t, 2, 40)
	x, y := anyone(0, nil, nil, []int{2}), anyone(1, nil, nil, nil)
	for range 3 {
		p.tells(x, api.Op{Kind: api.OpInsert, Key: "k", I: []int{2}, Cells: cells(1, 23)}, api.OK)
		p.tells(x, api.Op{Kind: api.OpInsert, Key: "k", I: []int{2}}, api.ErrKey)
		p.tells(y, api.Op{Kind: api.OpDelete, Key: "k"}, api.ErrDeny)
		p.tells(y, api.Op{Kind: api.OpUpdate, Key: "k"}, api.ErrDeny)
		p.stands()
		p.tells(x, api.Op{Kind: api.OpDelete, Key: "k"}, api.OK)
		p.tells(x, api.Op{Kind: api.OpDelete, Key: "k"}, api.ErrNone)
		if r := p.tells(x, api.Op{Kind: api.OpGet, Key: "k"}, api.OK); len(r.Rows) != 0 {
			t.Error(shown(r))
		}
		p.stands()
		p.tells(y, api.Op{Kind: api.OpInsert, Key: "k", Cells: cells(1, 23)}, api.OK)
		p.stands()
		// Whoever vouches may delete what another one stores.
		p.tells(x, api.Op{Kind: api.OpDelete, Key: "k"}, api.OK)
		p.stands()
	}
	// Of several secrecies just the one.
	p = made(t, 3, 40, several()...)
	for _, r := range mixed(several(), 3) {
		p.tells(anyone(0, nil, []int{1, 2, 3, 4, 5, 6}, append(upTo(300), 65536, greatest)), api.Op{Kind: api.OpDelete, Key: r.Key, S: r.Label.S}, api.OK)
		p.stands()
	}
	if len(p.s.Rows()) != 0 {
		t.Error(shown(p.s.Rows()))
	}
}

func TestGet(t *testing.T) {
	p := made(t, 3, 0, several()...)
	for _, x := range viewers() {
		for _, r := range several() {
			for _, key := range []string{r.Key, r.Key[:1], r.Key + "\x00", r.Key + "z"} {
				p.as(x, api.Op{Kind: api.OpGet, Key: key})
			}
		}
	}
	if r := p.tells(anyone(0, []int{1}, nil, []int{3}), api.Op{Kind: api.OpGet, Key: "a"}, api.OK); keys(r.Rows) != "a[] a[1] a[1 3] a[3]" || r.Uses != nil {
		t.Error(shown(r))
	}
	// Most is no bound of OpGet.
	p = made(t, 1, 0)
	for c := range 700 {
		p.load(api.Row{Key: "k", Label: api.Label{S: []int{700 - c}}, Who: 0}, api.OK)
		p.load(api.Row{Key: "k" + fmt.Sprint(c), Who: 0}, api.OK)
	}
	for _, x := range []api.Subject{anyone(0, nil, nil, upTo(700)), anyone(0, upTo(64), nil, []int{300, 301, 700}), anyone(0, nil, nil, nil)} {
		if r := p.tells(x, api.Op{Kind: api.OpGet, Key: "k"}, api.OK); len(r.Rows) != len(x.Label.S)+len(x.Own) {
			t.Error(len(r.Rows), shown(x))
		}
	}
}

func TestScan(t *testing.T) {
	p := made(t, 3, 0, several()...)
	long := strings.Repeat("a", 64)
	texts := []string{"", "\x00", "\x00\x00", "a", "a\x00", "a\x00\x00", "a\x00\x01", "a\x01", "aa", "ab", "abc", "b", "c", "\xff", "\xff\xff", long, long + "\x00", long + "a", long[:63], long[:63] + "b", long[:63] + "b\x00",
		strings.Repeat("\xff", 64), strings.Repeat("\xff", 65), strings.Repeat("\xff", 1000), strings.Repeat("a", 1<<16), strings.Repeat("\x00", 100)}
	for _, x := range viewers() {
		for _, from := range texts {
			for _, to := range texts {
				for _, most := range []int{0, 1, 2, 7, 256} {
					p.as(x, api.Op{Kind: api.OpScan, Key: from, To: to, Most: most})
				}
			}
		}
	}
	x := anyone(0, []int{3}, nil, nil)
	for _, c := range []struct {
		from, to string
		most     int
		want     string
	}{
		{"a\x01", "aaa", 9, "a\x01[] a\x01[3] aa[] aa[3]"},
		{"a\x01", "aaa", 3, "a\x01[] a\x01[3] aa[]"},
		{"a\x01", "a\x01", 9, ""},
		{"ab", "a\x01", 9, ""},
		{"a\x01", "aaa", 0, ""},
		{"b", "", 2, "b[] b[3]"},
		{strings.Repeat("\xff", 65), "", 256, ""},
		{strings.Repeat("\xff", 64), "", 256, strings.Repeat("\xff", 64) + "[] " + strings.Repeat("\xff", 64) + "[3]"},
	} {
		if r := p.tells(x, api.Op{Kind: api.OpScan, Key: c.from, To: c.to, Most: c.most}, api.OK); keys(r.Rows) != c.want || r.Uses != nil {
			t.Errorf("%q to %q, %d: %q; want %q", c.from, c.to, c.most, keys(r.Rows), c.want)
		}
	}
}

// Most counts what is seen, however much is not seen in between.
func TestScanBetween(t *testing.T) {
	p := made(t, 1, 0)
	for i := range 3000 {
		s := []int{2}
		if i%10 == 9 {
			s = []int{1}
		}
		p.load(api.Row{Key: fmt.Sprintf("%04d", i), Label: api.Label{S: s}, Who: 0}, api.OK)
	}
	x := anyone(0, []int{1}, nil, nil)
	for _, most := range []int{0, 1, 2, 31, 32, 33, 255, 256} {
		r := p.tells(x, api.Op{Kind: api.OpScan, Most: most}, api.OK)
		if len(r.Rows) != most {
			t.Errorf("%d of %d", len(r.Rows), most)
		}
		for i, got := range r.Rows {
			if got.Key != fmt.Sprintf("%04d", 10*i+9) {
				t.Errorf("%d: %s", i, shown(got))
			}
		}
		for _, to := range []string{"0009", "0010", "0100", "2999", "3"} {
			p.as(x, api.Op{Kind: api.OpScan, Key: "0005", To: to, Most: most})
		}
	}
	if r := p.tells(anyone(0, []int{1, 2}, nil, nil), api.Op{Kind: api.OpScan, Most: 256}, api.OK); len(r.Rows) != 256 || r.Rows[255].Key != "0255" {
		t.Error(len(r.Rows))
	}
}

// Fields that a kind does not name are not looked at.
func TestUnnamedFields(t *testing.T) {
	x := anyone(0, []int{1}, nil, []int{2})
	rows := []api.Row{{Key: "j", Label: api.Label{S: []int{1}}}, {Key: "k", Label: api.Label{S: []int{1}, I: []int{2}}, Who: 1}, {Key: "k"}}
	for _, most := range []int{-1, 257, math.MinInt, math.MaxInt, 0, 3} {
		for _, bad := range badSets() {
			for _, c := range badCells()[:5] {
				for _, to := range []string{"", "a", "k", strings.Repeat("k", 65)} {
					for _, o := range []api.Op{
						{Kind: api.OpInsert, Key: "new", S: []int{1}, I: []int{2}, To: to, Most: most},
						{Kind: api.OpUpdate, Key: "k", S: []int{1}, I: bad, Cells: []string{"c"}, To: to, Most: most},
						{Kind: api.OpDelete, Key: "k", S: []int{1}, I: bad, Cells: c, To: to, Most: most},
						{Kind: api.OpGet, Key: "k", S: bad, I: bad, Cells: c, To: to, Most: most},
					} {
						p := made(t, 2, 100, rows...)
						p.tells(x, o, api.OK)
						p.stands()
					}
					p := made(t, 2, 100, rows...)
					p.tells(x, api.Op{Kind: api.OpScan, Key: "j", S: bad, I: bad, Cells: c, To: to, Most: 3}, api.OK)
				}
			}
		}
	}
}

// R1: a store that nobody made.
func TestNobodysStore(t *testing.T) {
	p := made(t, 3, 1000, several()[:4]...)
	laid := *p.s
	for _, s := range []*store.Store{nil, {}, new(store.Store), &laid} {
		for _, kind := range append(kinds(), badKinds()...) {
			for _, o := range []api.Op{{Kind: kind, Key: "k", Most: 1}, {Kind: kind}, {Kind: kind, S: []int{0}, I: []int{0}}} {
				for _, x := range append(viewers(), anyone(0, []int{0}, nil, nil), anyone(0, nil, nil, []int{0})) {
					if r := s.Do(x, o); !sameResult(r, api.Result{Err: api.ErrArg}) {
						t.Error(shown(r))
					}
				}
			}
		}
		for _, r := range []api.Row{{Key: "k"}, {}, {Key: "k", Who: 99}} {
			if e := s.Load(r); e != api.ErrArg {
				t.Error(e)
			}
		}
		for who := -1; who < 17; who++ {
			if n := s.Used(who); n != 0 {
				t.Error(n)
			}
		}
		if l := s.Rows(); l != nil {
			t.Error(shown(l))
		}
		if l := s.View(person(0, upTo(9)...)); l != nil {
			t.Error(shown(l))
		}
		if c := s.Copy(); c != nil {
			t.Error(c)
		}
	}
	p.stands()
}

// Whatever is done, in whatever order, the store tells what the book tells; all
// that may be told is told often enough.
func TestDrawn(t *testing.T) {
	told := map[string]int{}
	for seed := range int64(60) {
		d := draws(seed, 1+int(seed)%3)
		p := made(t, d.users, []int{0, 17, 40, 100, 400, 2000, greatest}[seed%7])
		for i := range 1500 {
			if d.Intn(20) == 0 {
				r := api.Row{Key: d.key(), Cells: d.cells(), Label: api.Label{S: d.set(), I: d.set()}, Who: d.Intn(d.users+3) - 2}
				want := p.b.load(r)
				if got := p.s.Load(r); got != want {
					t.Fatalf("Load(%s): %v; want %v", shown(r), got, want)
				}
				told[fmt.Sprint("load ", want)]++
			}
			o := d.op()
			r := p.as(d.subject(), o)
			told[fmt.Sprint(o.Kind, " ", r.Err)]++
			if len(r.Uses) > 0 {
				told[fmt.Sprint(o.Kind, " uses")]++
			}
			if len(r.Rows) > 1 {
				told[fmt.Sprint(o.Kind, " rows")]++
			}
			if i%5 == 0 {
				p.stands()
			}
		}
		p.stands()
	}
	for _, want := range []string{
		"load 0", "load 110", "load 120", "1 0", "1 1", "1 20", "1 110", "1 21", "1 120", "1 121", "1 uses", "2 0", "2 1", "2 20", "2 110", "2 3", "2 21", "2 121", "2 uses",
		"3 0", "3 1", "3 20", "3 110", "3 3", "3 21", "3 uses", "4 0", "4 1", "4 20", "4 110", "4 rows", "5 0", "5 1", "5 20", "5 rows", "0 1", "6 1",
	} {
		if told[want] < 20 {
			t.Errorf("%q is told %d times: %v", want, told[want], told)
		}
	}
}

// St3: what is told hangs on the rows that are seen alone, but for the quota.
func TestSeenAlone(t *testing.T) {
	differ := 0
	for seed := range int64(200) {
		d := draws(seed, 3)
		x := api.Subject{Who: 0, Label: api.Label{S: []int{1}}, Own: []int{1 + int(seed)%2}}
		p, q := made(t, 3, greatest), made(t, 3, greatest)
		for range 12 {
			r := api.Row{Key: []string{"a", "a\x00", "ab", "b"}[d.Intn(4)], Label: api.Label{S: [][]int{nil, {1}, {2}, {3}, {1, 3}, {1, 2}, {4}}[d.Intn(7)]}, Who: d.Intn(4) - 1}
			seen := sees(x, r.Label.S)
			if seen || d.Intn(2) == 0 {
				p.s.Load(r)
			}
			if seen || d.Intn(2) == 0 {
				q.s.Load(r)
			}
		}
		for range 40 {
			if !sameRows(p.s.Rows(), q.s.Rows()) {
				differ++
			}
			if !sameRows(p.s.View(x), q.s.View(x)) {
				t.Fatal("views differ")
			}
			o := d.op()
			if a, b := p.s.Do(x, o), q.s.Do(x, o); !sameResult(a, b) {
				t.Fatalf("%s of %s: %s and %s", shown(o), shown(x), shown(a), shown(b))
			}
			// Others change what it does not see, in one of the two.
			o.S, o.I, o.Kind = []int{4}, nil, 1+d.Intn(3)
			p.s.Do(api.Subject{Who: 1, Label: api.Label{S: []int{4}}}, o)
		}
	}
	if differ < 1000 {
		t.Error("the stores were unlike only", differ, "times")
	}
}

// St4: a row is changed only by one who vouches for its integrity, and, if its
// secrecy lacks something of the subject's, by one who uses what it owns. St5:
// what is used is the rows' sum, and nobody makes another one's greater.
func TestWhatFollows(t *testing.T) {
	changed, lower := 0, 0
	for seed := range int64(60) {
		d := draws(seed, 3)
		quota := []int{60, 200, 1000}[seed%3]
		p := made(t, 3, quota, mixed(several(), seed)[:10]...)
		for range 2000 {
			x, o := d.subject(), d.op()
			before, counts := p.s.Rows(), []int{p.s.Used(0), p.s.Used(1), p.s.Used(2)}
			r := p.s.Do(x, o)
			after := p.s.Rows()
			for _, l := range [][2][]api.Row{{before, after}, {after, before}} {
				for _, row := range l[0] {
					if slices.ContainsFunc(l[1], func(other api.Row) bool { return sameRow(row, other) }) {
						continue
					}
					changed++
					if r.Err != api.OK || !vouches(x, row.Label.I) || !sees(x, row.Label.S) || row.Key != o.Key {
						t.Fatalf("%s changes %s by %s: %s", shown(x), shown(row), shown(o), shown(r))
					}
					lacks := without(x.Label.S, row.Label.S)
					if len(lacks) > 0 {
						lower++
					}
					if !slices.Equal(r.Uses, lacks) || len(without(lacks, x.Own)) > 0 {
						t.Fatalf("%s changes %s by %s, and uses %v", shown(x), shown(row), shown(o), r.Uses)
					}
				}
			}
			if o.Kind > api.OpDelete && !sameRows(before, after) {
				t.Fatal("who asks changes", shown(o))
			}
			for who, count := range counts {
				sum := 0
				for _, row := range after {
					if row.Who == who {
						sum += size(row)
					}
				}
				if p.s.Used(who) != sum {
					t.Fatalf("Used(%d): %d; want %d", who, p.s.Used(who), sum)
				}
				if sum > count && (who != x.Who || sum > quota) {
					t.Fatalf("%s makes what %d uses %d of %d by %s", shown(x), who, sum, quota, shown(o))
				}
			}
		}
	}
	if changed < 1000 || lower < 200 {
		t.Error(changed, lower)
	}
}
