package okws

import (
	"cloister/api"
	"slices"
)

// Log is what the kernel noted.
func (w *Web) Log() api.Log {
	if !w.given() {
		return api.Log{}
	}
	l := freshLog(w.notes)
	l.Grants = w.people.Grants()
	return l
}

// noteToken notes that a session began, or ended.
func (w *Web) noteToken(who int, token string, on bool) {
	w.notes.Tokens = append(w.notes.Tokens, api.Token{Step: w.steps, User: who, Token: token, On: on})
}

// noteUse notes what was used to let something flow, if anything was.
func (w *Web) noteUse(who int, cats []int, what string) {
	if len(cats) > 0 {
		w.notes.Uses = append(w.notes.Uses, api.Use{Step: w.steps, Who: who, Cats: cats, What: what})
	}
}

// noteChange notes an operation that was done, if it changed a row: one of that
// integrity.
func (w *Web) noteChange(who int, o api.Op, integrity []int) {
	if wordOf(o.Kind) == "" {
		return
	}
	change := api.Change{Step: w.steps, Who: who, Kind: o.Kind, Key: o.Key, S: o.S, I: integrity}
	w.notes.Changes = append(w.notes.Changes, change)
}

// wordOf is the word of an operation that changes a row; empty of others.
func wordOf(kind int) string {
	switch kind {
	case api.OpInsert:
		return "insert"
	case api.OpUpdate:
		return "update"
	case api.OpDelete:
		return "delete"
	}
	return ""
}

// textOfOp tells what flowed by an operation that changed a row.
func textOfOp(o api.Op) string {
	text := wordOf(o.Kind) + " " + o.Key
	for _, cell := range o.Cells {
		text += " " + cell
	}
	return text
}

// freshLog is the log in new memory.
func freshLog(l api.Log) api.Log {
	var out api.Log
	for _, x := range l.Uses {
		x.Cats, x.What = slices.Clone(x.Cats), fresh(x.What)
		out.Uses = append(out.Uses, x)
	}
	for _, x := range l.Changes {
		x.Key, x.S, x.I = fresh(x.Key), slices.Clone(x.S), slices.Clone(x.I)
		out.Changes = append(out.Changes, x)
	}
	for _, x := range l.Tokens {
		x.Token = fresh(x.Token)
		out.Tokens = append(out.Tokens, x)
	}
	return out
}
