package idd

import (
	"cloister/api"
	"cloister/set"
)

const (
	kernel    = -1
	atFirst   = -1 // the step of what is given ahead of all steps
	madeRange = 1000
)

// Own is what somebody owns.
func (d *Idd) Own(user int) []int {
	if !d.isUser(user) {
		return nil
	}
	return fresh(d.users[user].own)
}

// Subject is somebody's event process, as labels see it.
func (d *Idd) Subject(user int) (api.Subject, api.Errno) {
	if !d.isUser(user) {
		return api.Subject{}, api.ErrArg
	}
	return api.Subject{Who: user, Label: api.Label{S: []int{secrecy(user)}}, Own: d.Own(user)}, api.OK
}

// Make makes a category for somebody.
func (d *Idd) Make(user, step int) (int, api.Errno) {
	if !d.isUser(user) {
		return 0, api.ErrArg
	}
	a := &d.users[user]
	if a.made >= api.MaxMade {
		return 0, api.ErrFull
	}
	cat := madeRange*(user+1) + a.made
	a.made++
	d.grant(step, kernel, user, cat)
	return cat, api.OK
}

// Give gives somebody what another one owns.
func (d *Idd) Give(from, to, cat, step int) api.Errno {
	if !d.isUser(from) || !d.isUser(to) {
		return api.ErrArg
	}
	if !set.Has(d.users[from].own, cat) {
		return api.ErrNone
	}
	if !set.Has(d.users[to].own, cat) {
		d.grant(step, from, to, cat)
	}
	return api.OK
}

// Grants are all that were given.
func (d *Idd) Grants() []api.Grant {
	if !d.given() {
		return nil
	}
	return fresh(d.grants)
}

// grant lets somebody own what it did not own, and notes from whom. Nothing is
// owned another way.
func (d *Idd) grant(step, from, to, cat int) {
	d.users[to].own = set.Join(d.users[to].own, []int{cat})
	d.grants = append(d.grants, api.Grant{Step: step, From: from, To: to, Cat: cat})
}

// secrecy is a user's.
func secrecy(who int) int {
	return 2*who + 1
}

// integrity is a user's.
func integrity(who int) int {
	return secrecy(who) + 1
}
