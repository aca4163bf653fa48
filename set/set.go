// Package set is layer 1: see shared/doc/01-set.md.
package set

import (
	"cloister/api"
	"cmp"
	"slices"
)

// Set is a set with a room.
type Set[T cmp.Ordered] struct {
	// self is where New or Copy laid the set: a set that was copied by
	// assignment would share its list with the first one, so it is refused.
	self *Set[T]
	room int
	list []T
}

// New is an empty set with a room.
func New[T cmp.Ordered](room int) (*Set[T], api.Errno) {
	if room < 1 || room > api.MaxSet {
		return nil, api.ErrArg
	}
	return lay[T](room, nil), api.OK
}

// Add puts something into it.
func (s *Set[T]) Add(x T) api.Errno {
	if !s.given() {
		return api.ErrArg
	}
	at, there := slices.BinarySearch(s.list, x)
	if there {
		return api.OK
	}
	if len(s.list) >= s.room {
		return api.ErrFull
	}
	s.list = slices.Insert(s.list, at, x)
	return api.OK
}

// Del takes something out.
func (s *Set[T]) Del(x T) api.Errno {
	if !s.given() {
		return api.ErrArg
	}
	at, there := slices.BinarySearch(s.list, x)
	if !there {
		return api.ErrNone
	}
	s.list = slices.Delete(s.list, at, at+1)
	return api.OK
}

// Has tells whether something is in it.
func (s *Set[T]) Has(x T) bool {
	return s.given() && among(s.list, x)
}

// List is what is in it, rising.
func (s *Set[T]) List() []T {
	if !s.given() {
		return nil
	}
	return fresh(s.list)
}

// Len is how many there are.
func (s *Set[T]) Len() int {
	if !s.given() {
		return 0
	}
	return len(s.list)
}

// Copy is a set as this one is now.
func (s *Set[T]) Copy() *Set[T] {
	if !s.given() {
		return nil
	}
	return lay(s.room, fresh(s.list))
}

// Of is what there is in a list: each once, rising.
func Of[T cmp.Ordered](l []T) []T {
	return settle(fresh(l))
}

// Has tells whether something is in a set.
func Has[T cmp.Ordered](s []T, x T) bool {
	// The list need not rise, so it can't be searched by halves.
	return slices.Contains(s, x)
}

// Join is what is in either.
func Join[T cmp.Ordered](a, b []T) []T {
	return settle(append(fresh(a), b...))
}

// Meet is what is in both.
func Meet[T cmp.Ordered](a, b []T) []T {
	return pick(a, b, true)
}

// Less is what is in the first one alone.
func Less[T cmp.Ordered](a, b []T) []T {
	return pick(a, b, false)
}

// Within tells whether all of the first one are in the second.
func Within[T cmp.Ordered](a, b []T) bool {
	return len(Less(a, b)) == 0
}

// lay makes a set that keeps the list; nobody else may hold it.
func lay[T cmp.Ordered](room int, list []T) *Set[T] {
	s := &Set[T]{room: room, list: list}
	s.self = s
	return s
}

// given tells whether the set is one of New's or Copy's.
func (s *Set[T]) given() bool {
	return s != nil && s.self == s
}

// fresh is the list in new memory. (slices.Clone of an empty list still
// points at the old one.)
func fresh[T cmp.Ordered](l []T) []T {
	return append([]T(nil), l...)
}

// settle makes a set of a list in the list's own memory.
func settle[T cmp.Ordered](own []T) []T {
	slices.Sort(own)
	return slices.Compact(own)
}

// pick is the set of what in a is also in b (in), or is not.
func pick[T cmp.Ordered](a, b []T, in bool) []T {
	other := Of(b)
	var out []T
	for _, x := range Of(a) {
		if among(other, x) == in {
			out = append(out, x)
		}
	}
	return out
}

// among tells whether something is in a list that rises.
func among[T cmp.Ordered](rising []T, x T) bool {
	_, there := slices.BinarySearch(rising, x)
	return there
}
