package store

import (
	"cloister/api"
	"cloister/label"
	"cloister/row"
	"cloister/set"
	"slices"
)

// checkSubject is the error of a subject that may not ask.
func (s *Store) checkSubject(x api.Subject) api.Errno {
	if !s.isUser(x.Who) {
		return api.ErrArg
	}
	// Between labels without categories nothing is lacking, so just what is
	// owned can be refused.
	if _, e := label.Flows(api.Label{}, api.Label{}, x.Own); e != api.OK {
		return e
	}
	return label.Check(x.Label)
}

// insert does OpInsert.
func (s *Store) insert(x api.Subject, o api.Op) api.Result {
	r := api.Row{Key: o.Key, Cells: o.Cells, Label: api.Label{S: o.S, I: o.I}, Who: x.Who}
	if e := label.Check(r.Label); e != api.OK {
		return refused(e)
	}
	if e := row.Check(r); e != api.OK {
		return refused(e)
	}
	if !sight(x)(o.S) || !mayWrite(x, r.Label) {
		return refused(api.ErrDeny)
	}
	if _, there := s.find(o.Key, o.S); there {
		return refused(api.ErrKey)
	}
	if s.used[x.Who]+sizeOf(r) > s.quota {
		return refused(api.ErrQuota)
	}
	s.put(r)
	return written(x, r)
}

// update does OpUpdate.
func (s *Store) update(x api.Subject, o api.Op) api.Result {
	old, e := s.findToWrite(x, o, o.Cells)
	if e != api.OK {
		return refused(e)
	}
	r := old
	r.Cells, r.Who = o.Cells, x.Who
	used := s.used[x.Who] + sizeOf(r)
	if old.Who == x.Who {
		used -= sizeOf(old)
	}
	if used > s.quota {
		return refused(api.ErrQuota)
	}
	s.put(r)
	return written(x, r)
}

// remove does OpDelete.
func (s *Store) remove(x api.Subject, o api.Op) api.Result {
	r, e := s.findToWrite(x, o, nil)
	if e != api.OK {
		return refused(e)
	}
	s.drop(r)
	return written(x, r)
}

// get does OpGet.
func (s *Store) get(x api.Subject, o api.Op) api.Result {
	if e := row.Check(api.Row{Key: o.Key}); e != api.OK {
		return refused(e)
	}
	sees := sight(x)
	var out []api.Row
	for r := range s.rising(o.Key) {
		if r.Key != o.Key {
			break
		}
		if sees(r.Label.S) {
			out = append(out, freshRow(r))
		}
	}
	return api.Result{Rows: out}
}

// scan does OpScan.
func (s *Store) scan(x api.Subject, o api.Op) api.Result {
	if o.Most < 0 || o.Most > api.MaxScan {
		return refused(api.ErrArg)
	}
	sees := sight(x)
	var out []api.Row
	for r := range s.rising(o.Key) {
		if len(out) == o.Most || o.To != "" && r.Key >= o.To {
			break
		}
		if sees(r.Label.S) {
			out = append(out, freshRow(r))
		}
	}
	return api.Result{Rows: out}
}

// findToWrite is the row of an operation's key and secrecy, if it may be
// written by the subject, and, with such cells, could be.
func (s *Store) findToWrite(x api.Subject, o api.Op, cells []string) (api.Row, api.Errno) {
	if e := label.Check(api.Label{S: o.S}); e != api.OK {
		return api.Row{}, e
	}
	if e := row.Check(api.Row{Key: o.Key, Cells: cells}); e != api.OK {
		return api.Row{}, e
	}
	r, there := s.find(o.Key, o.S)
	// Whoever does not see the row is told just what it would be told if the
	// row were not there.
	if !there || !sight(x)(o.S) {
		return api.Row{}, api.ErrNone
	}
	if !mayWrite(x, r.Label) {
		return api.Row{}, api.ErrDeny
	}
	return r, api.OK
}

// sight tells of secrecies whether the subject sees rows that have them.
func sight(x api.Subject) func(secrecy []int) bool {
	cleared := set.Join(x.Label.S, x.Own)
	return func(secrecy []int) bool {
		for _, cat := range secrecy {
			if _, in := slices.BinarySearch(cleared, cat); !in {
				return false
			}
		}
		return true
	}
}

// mayWrite tells whether the subject may write at the label's secrecy and
// vouches for its integrity: that is, whether something flows from the one to
// the other by what it owns.
func mayWrite(x api.Subject, l api.Label) bool {
	_, e := label.Flows(x.Label, l, x.Own)
	return e == api.OK
}

// written is what is told of a row that was written.
func written(x api.Subject, r api.Row) api.Result {
	return api.Result{Uses: set.Less(x.Label.S, r.Label.S)}
}

// refused is what is told of an operation that was not done.
func refused(e api.Errno) api.Result {
	return api.Result{Err: e}
}
