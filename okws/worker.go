package okws

import (
	"cloister/api"
	"cloister/ep"
	"cloister/reply"
	"slices"
)

// worker is a user's event process, and what waits for it.
type worker struct {
	who     int
	process *ep.Ep
	// waiting are the requests that wait for it, the first one first.
	waiting []request
	// conn is the connection of the request that goes on.
	conn int
	// table is what the request that goes on waits for; its kind is 0, if it
	// waits for nothing.
	table operation
}

// request is one that waits: its connection, and what the event process is told
// of it.
type request struct {
	conn int
	text string
}

// operation is one of the table server, and where the cell that it tells is
// laid.
type operation struct {
	api.Op
	at, most int
}

// isBusy tells whether a request goes on, or waits.
func (u *worker) isBusy() bool {
	return u.process.Busy() || len(u.waiting) > 0
}

// waitsForTable tells whether the request that goes on waits for an operation.
func (u *worker) waitsForTable() bool {
	return u.table.Kind != 0
}

// line puts a request behind those that wait.
func (u *worker) line(r request) {
	u.waiting = append(u.waiting, r)
}

// begin begins the first request that waits, if there is one and none goes on.
func (u *worker) begin(fuel int) {
	if u.process.Busy() || len(u.waiting) == 0 {
		return
	}
	first := u.waiting[0]
	u.waiting = slices.Delete(u.waiting, 0, 1)
	u.conn = first.conn
	// No head and body make a text that is too long for that.
	u.process.Begin(first.text, fuel)
}

// copy is a worker as this one is now.
func (u *worker) copy() worker {
	c := *u
	c.process, c.waiting = u.process.Copy(), slices.Clone(u.waiting)
	return c
}

// pickWorker lets a user's event process run, at most till its request ends. As
// long as one waits for the table server it goes on, so that no other one begins.
func (w *Web) pickWorker(u *worker, ticks int) {
	u.begin(w.fuel)
	traps := w.traps()
	for u.process.Busy() && !u.waitsForTable() && ticks > 0 {
		stop, _ := u.process.Run(ticks)
		ticks -= stop.Used
		switch {
		case stop.Kind == api.StopTrap:
			w.trap(u, traps[stop.Trap])
		case !u.process.Busy():
			w.fail(u)
		}
	}
}

// trap does what is done with a trap; one that there is not takes nothing.
func (w *Web) trap(u *worker, t trap) {
	numbers, e := u.process.Args(t.takes)
	if t.does == nil || e != api.OK {
		w.fail(u)
		return
	}
	t.does(u, numbers)
}

// give answers a trap.
func (w *Web) give(u *worker, n int) {
	if u.process.Give(n) != api.OK {
		w.fail(u)
	}
}

// lay answers a trap by a text's first bytes in memory, and how many they are.
func (w *Web) lay(u *worker, at, most int, text string) {
	text = text[:min(max(most, 0), len(text))]
	if u.process.Lay(at, text) {
		w.give(u, len(text))
	} else {
		w.fail(u)
	}
}

// fail ends the request that went wrong.
func (w *Web) fail(u *worker) {
	w.end(u, reply.Plain(failed, "", false))
}

// end ends a request by its answer.
func (w *Web) end(u *worker, r api.Response) {
	u.process.End()
	w.conns.Answer(u.conn, r)
}
