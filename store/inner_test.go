package store

import (
	"cloister/api"
	"maps"
	"testing"
)

// The greatest quota, just met and just passed: so many bytes are not stored
// in a test, so they are counted by hand.
func TestGreatestQuota(t *testing.T) {
	x := api.Subject{Who: 0}
	insert := func(key string) api.Op { return api.Op{Kind: api.OpInsert, Key: key} }
	update := func(cell string) api.Op {
		return api.Op{Kind: api.OpUpdate, Key: "k", Cells: []string{cell}}
	}
	s, e := New(2, 1<<31-1)
	if e != api.OK {
		t.Fatal(e)
	}
	s.used[0] = 1<<31 - 1 - 18
	for _, c := range []struct {
		op   api.Op
		want api.Errno
	}{
		{insert("kkk"), api.ErrQuota}, {insert("k"), api.OK}, {insert("l"), api.ErrQuota},
		{update("a"), api.OK}, {update("ab"), api.ErrQuota}, {update("c"), api.OK}, {update(""), api.OK}, {insert("l"), api.ErrQuota},
		{api.Op{Kind: api.OpDelete, Key: "k"}, api.OK}, {insert("ll"), api.OK}, {insert("l"), api.ErrQuota},
	} {
		if r := s.Do(x, c.op); r.Err != c.want {
			t.Errorf("%v: %v; want %v", c.op, r.Err, c.want)
		}
	}
	if s.Used(0) != 1<<31-1 {
		t.Error(s.Used(0))
	}
	if r := s.Do(api.Subject{Who: 1}, insert("l")); r.Err != api.OK || s.Used(1) != 17 {
		t.Error(r, s.Used(1))
	}
}

// Whoever has no rows goes out of the map, and nobody is never in it.
func TestCounts(t *testing.T) {
	s, _ := New(3, 100)
	counts := func(want map[int]int) {
		t.Helper()
		if !maps.Equal(s.used, want) {
			t.Errorf("%v; want %v", s.used, want)
		}
	}
	do := func(who, kind int, key string) {
		t.Helper()
		if r := s.Do(api.Subject{Who: who}, api.Op{Kind: kind, Key: key}); r.Err != api.OK {
			t.Fatal(who, kind, key, r)
		}
	}
	counts(nil)
	s.Load(api.Row{Key: "a", Who: -1})
	counts(nil)
	s.Load(api.Row{Key: "b", Who: 2})
	counts(map[int]int{2: 17})
	do(0, api.OpInsert, "c")
	counts(map[int]int{0: 17, 2: 17})
	do(1, api.OpUpdate, "c")
	counts(map[int]int{1: 17, 2: 17})
	do(1, api.OpUpdate, "a")
	counts(map[int]int{1: 34, 2: 17})
	for _, key := range []string{"a", "b", "c"} {
		do(0, api.OpDelete, key)
	}
	counts(nil)
	if s.rows.Len() != 0 {
		t.Error(s.rows.Len())
	}
	do(0, api.OpScan, "")
	s.Used(7)
	counts(nil)
}

// A copy keeps lists of its own.
func TestCopyKeepsItsOwn(t *testing.T) {
	s, _ := New(1, 100)
	want := api.Row{Key: "k", Cells: []string{"a"}, Label: api.Label{S: []int{1}, I: []int{2}}}
	s.Load(want)
	c := s.Copy()
	for _, r := range s.rows.All() {
		r.Cells[0], r.Label.S[0], r.Label.I[0] = "b", 3, 4
	}
	if got := c.Rows(); len(got) != 1 || got[0].Cells[0] != "a" || got[0].Label.S[0] != 1 || got[0].Label.I[0] != 2 {
		t.Error(got)
	}
}
