package store

import (
	"cloister/api"
	"cloister/row"
	"iter"
)

// batch is how many rows are taken out of the tree at one time: whoever asks
// for few does not have all of them laid out.
const batch = 32

// find is the row of a key and a secrecy that may be a row's.
func (s *Store) find(key string, secrecy []int) (api.Row, bool) {
	return s.rows.Get(placeOf(key, secrecy))
}

// put keeps a row that may be, in new memory, instead of the one that stands
// at its place, if there is one.
func (s *Store) put(r api.Row) {
	place := placeOf(r.Key, r.Label.S)
	if old, there := s.rows.Get(place); there {
		s.count(old.Who, -sizeOf(old))
	}
	s.rows.Put(place, freshRow(r))
	s.count(r.Who, sizeOf(r))
}

// drop takes out a row that stands.
func (s *Store) drop(r api.Row) {
	s.rows.Del(placeOf(r.Key, r.Label.S))
	s.count(r.Who, -sizeOf(r))
}

// count changes how many bytes somebody's rows count.
func (s *Store) count(who, by int) {
	if !s.isUser(who) {
		return
	}
	s.used[who] += by
	if s.used[who] == 0 {
		delete(s.used, who)
	}
}

// rising hands out the rows whose keys are not below one, in order; any text
// may be asked for. What is handed out is what is kept.
func (s *Store) rising(key string) iter.Seq[api.Row] {
	return func(yield func(api.Row) bool) {
		// A text that may be no key has no place: then all are gone through.
		from := placeOf(key, nil)
		for {
			items := s.rows.Range(from, "", batch)
			for _, it := range items {
				if it.Value.Key >= key && !yield(it.Value) {
					return
				}
			}
			if len(items) < batch {
				return
			}
			// The least text above the last one.
			from = items[batch-1].Key + "\x00"
		}
	}
}

// placeOf is the place of a key and a secrecy; empty, if they are no row's.
func placeOf(key string, secrecy []int) string {
	place, _ := row.Place(key, secrecy)
	return place
}

// sizeOf is how many bytes a row that may be is counted as.
func sizeOf(r api.Row) int {
	size, _ := row.Size(r)
	return size
}

// freshRow is the row in new memory.
func freshRow(r api.Row) api.Row {
	var cells []string
	for _, cell := range r.Cells {
		cells = append(cells, freshText(cell))
	}
	return api.Row{
		Key:   freshText(r.Key),
		Cells: cells,
		Label: api.Label{S: freshList(r.Label.S), I: freshList(r.Label.I)},
		Who:   r.Who,
	}
}

// freshText is the text in new memory.
func freshText(s string) string {
	return string([]byte(s))
}

// freshList is the list in new memory.
func freshList(l []int) []int {
	return append([]int(nil), l...)
}
