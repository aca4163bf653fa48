package okws

import (
	"cloister/api"
	"cloister/reply"
	"slices"
	"strconv"
)

// The statuses by which an event process may answer.
const (
	leastStatus    = 200
	greatestStatus = 599
)

// refused answers a trap that tells a number, if there is none.
const refused = -1

// trap is how many numbers a system call takes, and what is done with them.
type trap struct {
	takes int
	does  func(u *worker, n []int)
}

// traps are the system calls, by their numbers.
func (w *Web) traps() map[int]trap {
	return map[int]trap{
		api.SysReply:  {3, w.sysReply},
		api.SysInput:  {2, w.sysInput},
		api.SysInsert: {5, w.sysInsert},
		api.SysUpdate: {5, w.sysUpdate},
		api.SysDelete: {3, w.sysDelete},
		api.SysGet:    {4, w.sysGet},
		api.SysCount:  {2, w.sysCount},
		api.SysSend:   {4, w.sysSend},
		api.SysRecv:   {2, w.sysRecv},
		api.SysMake:   {0, w.sysMake},
		api.SysGive:   {2, w.sysGive},
		api.SysWho:    {0, w.sysWho},
	}
}

// sysReply takes a status, and where the text is.
func (w *Web) sysReply(u *worker, n []int) {
	text, ok := u.process.Text(n[1], n[2])
	if !ok || n[0] < leastStatus || n[0] > greatestStatus {
		w.fail(u)
		return
	}
	w.end(u, reply.Plain(n[0], text, false))
}

// sysInput takes where the request's text is laid, and the most of it.
func (w *Web) sysInput(u *worker, n []int) {
	w.lay(u, n[0], n[1], u.process.Input())
}

// sysInsert takes where the key and the cell are, and whether it is open.
func (w *Web) sysInsert(u *worker, n []int) {
	w.write(u, api.OpInsert, n)
}

// sysUpdate takes what sysInsert does.
func (w *Web) sysUpdate(u *worker, n []int) {
	w.write(u, api.OpUpdate, n)
}

// write lets a worker wait for a row of one cell.
func (w *Web) write(u *worker, kind int, n []int) {
	cell, ok := u.process.Text(n[2], n[3])
	if !ok {
		w.fail(u)
		return
	}
	o := api.Op{Kind: kind, S: writtenAt(u.who, n[4]), I: []int{integrity(u.who)}, Cells: []string{cell}}
	w.await(u, n[0], n[1], operation{Op: o})
}

// sysDelete takes where the key is, and whether it is open.
func (w *Web) sysDelete(u *worker, n []int) {
	w.await(u, n[0], n[1], operation{Op: api.Op{Kind: api.OpDelete, S: writtenAt(u.who, n[2])}})
}

// sysGet takes where the key is, where the cell is laid, and the most of it.
func (w *Web) sysGet(u *worker, n []int) {
	w.await(u, n[0], n[1], operation{Op: api.Op{Kind: api.OpGet}, at: n[2], most: n[3]})
}

// sysCount takes where the text is with which keys begin.
func (w *Web) sysCount(u *worker, n []int) {
	w.await(u, n[0], n[1], operation{Op: api.Op{Kind: api.OpScan, Most: api.MaxScan}})
}

// await lets a worker wait for an operation whose key stands in its memory.
func (w *Web) await(u *worker, at, n int, o operation) {
	key, ok := u.process.Text(at, n)
	if !ok {
		w.fail(u)
		return
	}
	o.Key = key
	u.table = o
}

// sysSend takes to whom, where the text is, and whether it is open.
func (w *Web) sysSend(u *worker, n []int) {
	text, ok := u.process.Text(n[1], n[2])
	if !ok {
		w.fail(u)
		return
	}
	x, _ := w.people.Subject(u.who)
	uses, e := w.mail.Send(x, n[0], text, isOpen(n[3]))
	w.noteUse(u.who, uses, "send "+strconv.Itoa(n[0])+" "+text)
	w.give(u, int(e))
}

// sysRecv takes where the message is laid, and the most of it.
func (w *Web) sysRecv(u *worker, n []int) {
	m, ok := w.mail.Take(u.who)
	if !ok {
		w.give(u, refused)
		return
	}
	w.lay(u, n[0], n[1], m.Text)
}

// sysMake takes nothing.
func (w *Web) sysMake(u *worker, _ []int) {
	cat, e := w.people.Make(u.who, w.steps)
	if e != api.OK {
		cat = refused
	}
	w.give(u, cat)
}

// sysGive takes to whom, and the category.
func (w *Web) sysGive(u *worker, n []int) {
	lacks, e := w.handOn(u.who, n[0], n[1])
	if e == api.OK {
		w.noteUse(u.who, lacks, "give "+strconv.Itoa(n[1])+" "+strconv.Itoa(n[0]))
	}
	w.give(u, int(e))
}

// handOn gives somebody a category of another one: what was used for that. Who
// is given something is told something, so it needs what a message would.
func (w *Web) handOn(from, to, cat int) ([]int, api.Errno) {
	if !w.isUser(to) {
		return nil, api.ErrArg
	}
	lacks := w.lacks(from, to)
	for _, lacked := range lacks {
		if !slices.Contains(w.people.Own(from), lacked) {
			return nil, api.ErrDeny
		}
	}
	return lacks, w.people.Give(from, to, cat, w.steps)
}

// lacks is what a message of one user to another one lacks.
func (w *Web) lacks(from, to int) []int {
	if from == to {
		return nil
	}
	return []int{secrecy(from)}
}

// sysWho takes nothing.
func (w *Web) sysWho(u *worker, _ []int) {
	w.give(u, u.who)
}

// isOpen tells whether a number lets somebody use what it owns.
func isOpen(n int) bool {
	return n != 0
}

// writtenAt is the secrecy at which a user writes.
func writtenAt(who, open int) []int {
	if isOpen(open) {
		return nil
	}
	return []int{secrecy(who)}
}

// secrecy is a user's.
func secrecy(who int) int {
	return 2*who + 1
}

// integrity is a user's.
func integrity(who int) int {
	return secrecy(who) + 1
}
