package okws

import (
	"cloister/api"
	"cloister/demux"
	"cloister/reply"
	"cloister/uri"
	"slices"
)

// The statuses by which the web answers by itself.
const (
	done    = 200
	unknown = 401
	failed  = 500
)

const (
	welcome     = "welcome"
	bye         = "bye"
	cookieField = "set-cookie"
	tokenCookie = "sid="
)

// Step does a step: what it emitted, if it did.
func (w *Web) Step(s api.Step) ([]api.Out, api.Errno) {
	switch {
	case !w.given():
		return nil, api.ErrArg
	case w.steps >= api.MaxSteps:
		return nil, api.ErrFull
	case !w.mayBe(s):
		return nil, api.ErrArg
	}
	out := w.do(s)
	w.steps++
	return out, api.OK
}

// Run does steps.
func Run(c api.Config, steps []api.Step) ([]api.Out, api.Log, api.Errno) {
	w, e := New(c)
	if e != api.OK {
		return nil, api.Log{}, e
	}
	var all []api.Out
	for _, s := range steps {
		out, e := w.Step(s)
		if e != api.OK {
			return nil, api.Log{}, e
		}
		all = append(all, out...)
	}
	return all, w.Log(), api.OK
}

// mayBe tells whether a step may be; fields that its kind does not name are
// not looked at.
func (w *Web) mayBe(s api.Step) bool {
	switch s.Kind {
	case api.StepArrive:
		return isConn(s.At) && len(s.Bytes) <= api.MaxFeed
	case api.StepClose, api.StepConn, api.StepIdd:
		return isConn(s.At)
	case api.StepWorker:
		return w.isUser(s.At) && isFrom1(s.Ticks, api.MaxFuel)
	case api.StepTable:
		return w.isUser(s.At)
	}
	return false
}

// do does a step that may be.
func (w *Web) do(s api.Step) []api.Out {
	switch s.Kind {
	case api.StepArrive:
		w.conns.Arrive(s.At, s.Bytes)
	case api.StepClose:
		w.conns.Shut(s.At)
	case api.StepConn:
		return w.pickConn(s.At)
	case api.StepIdd:
		w.pickIdd(s.At)
	case api.StepWorker:
		w.pickWorker(&w.workers[s.At], s.Ticks)
	case api.StepTable:
		w.pickTable(&w.workers[s.At])
	}
	return nil
}

// pickConn lets a connection do its next thing: what goes out, or what waits
// for another unit from then on.
func (w *Web) pickConn(conn int) []api.Out {
	act, _ := w.conns.Pick(conn)
	switch act.Kind {
	case demux.Emit:
		return []api.Out{{Step: w.steps, Conn: conn, Bytes: act.Out, Close: act.Close}}
	case demux.Login, demux.Logout:
		w.asked[conn] = act
	case demux.Forward:
		w.workers[act.User].line(request{conn: conn, text: textOf(act.Request)})
	}
	return nil
}

// pickIdd does a connection's login or logout, if one waits.
func (w *Web) pickIdd(conn int) {
	act, waits := w.asked[conn]
	if !waits {
		return
	}
	delete(w.asked, conn)
	if act.Kind == demux.Login {
		w.conns.Answer(conn, w.login(act.Name, act.Word))
	} else {
		w.conns.Answer(conn, w.logout(act.Token))
	}
}

// login begins a session, if the word is right: the answer.
func (w *Web) login(name, word string) api.Response {
	eldest := w.eldest(name)
	token, who, e := w.people.Login(name, word)
	if e != api.OK {
		return reply.Plain(unknown, "", false)
	}
	if _, e := w.people.Who(eldest); eldest != "" && e != api.OK {
		w.conns.Free(eldest)
		w.noteToken(who, eldest, false)
	}
	w.conns.Bind(token, who)
	w.noteToken(who, token, true)
	r := reply.Plain(done, welcome, false)
	r.Fields = []api.Pair{{Name: cookieField, Value: tokenCookie + token}}
	return r
}

// eldest is the eldest session of the user of a name; empty, if there is none.
func (w *Web) eldest(name string) string {
	who := slices.Index(w.names, name)
	if tokens := w.people.Tokens(who); len(tokens) > 0 {
		return tokens[0]
	}
	return ""
}

// logout ends a session, if it has not ended meanwhile: the answer.
func (w *Web) logout(token string) api.Response {
	who, e := w.people.Logout(token)
	if e != api.OK {
		return reply.Plain(unknown, "", false)
	}
	w.conns.Free(token)
	w.noteToken(who, token, false)
	return reply.Plain(done, bye, false)
}

// textOf is what an event process is told of a request.
func textOf(r api.Request) string {
	return r.Head.Method + " " + r.Path + "\n" + uri.Print(r.Query) + "\n" + r.Body
}

// isConn tells whether the number is a connection's.
func isConn(conn int) bool {
	return conn >= 0 && conn < api.MaxConns
}
