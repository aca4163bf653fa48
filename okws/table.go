package okws

import (
	"cloister/api"
	"slices"
	"strings"
)

// pickTable does the operation for which a user's event process waits, if it
// waits for one.
func (w *Web) pickTable(u *worker) {
	if !u.waitsForTable() {
		return
	}
	o := u.table
	u.table = operation{}
	// What it owns counts now, not when it asked.
	x, _ := w.people.Subject(u.who)
	was := w.integrityOf(x, o.Op)
	told := w.rows.Do(x, o.Op)
	if told.Err == api.OK {
		w.noteChange(u.who, o.Op, was)
		w.noteUse(u.who, told.Uses, textOfOp(o.Op))
	}
	w.tell(u, o, told)
}

// integrityOf is that of the row which an operation would change: of one that
// is deleted it can't be told afterwards.
func (w *Web) integrityOf(x api.Subject, o api.Op) []int {
	if o.Kind == api.OpInsert {
		return o.I
	}
	there := w.rows.Do(x, api.Op{Kind: api.OpGet, Key: o.Key})
	for _, r := range there.Rows {
		if slices.Equal(r.Label.S, o.S) {
			return r.Label.I
		}
	}
	return nil
}

// tell tells an event process what became of its operation.
func (w *Web) tell(u *worker, o operation, told api.Result) {
	switch {
	case o.Kind == api.OpScan:
		w.give(u, countOf(told.Rows, o.Key))
	case o.Kind != api.OpGet:
		w.give(u, int(told.Err))
	case len(told.Rows) == 0:
		w.give(u, refused)
	default:
		w.lay(u, o.at, o.most, cellOf(told.Rows[0]))
	}
}

// countOf is how many rows have keys that begin with a text.
func countOf(rows []api.Row, text string) int {
	n := 0
	for _, r := range rows {
		if strings.HasPrefix(r.Key, text) {
			n++
		}
	}
	return n
}

// cellOf is a row's first cell; empty, if it has none.
func cellOf(r api.Row) string {
	if len(r.Cells) == 0 {
		return ""
	}
	return r.Cells[0]
}
