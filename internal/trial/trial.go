// Package trial is what tests of several layers try the whole by: users whose
// event processes do what a request's body says, requests, and scripts that are
// written while a web goes along with them.
package trial

import (
	"cloister/api"
	"cloister/okws"
	"cloister/reply"
	"cloister/sha"
	"strconv"
	"strings"
)

// Users are so many, of whom those are open the bit of whose number is set.
// Their names are a, b and so on; their words stand behind a w.
func Users(n, open int) []api.User {
	var out []api.User
	for who := range n {
		digest, _ := sha.Salted("s", Word(who))
		out = append(out, api.User{Name: Name(who), Salt: "s", Digest: digest, Open: open>>who&1 == 1})
	}
	return out
}

// Name is that of a user.
func Name(who int) string { return string([]byte{'a' + byte(who)}) }

// Word is that of a user.
func Word(who int) string { return "w" + Name(who) }

// Config is a configuration of such users, who may do much, and the worker.
func Config(n, open int) api.Config {
	return api.Config{Users: Users(n, open), Code: Worker(), Conns: 8, Asks: 8, Quota: 10000, Fuel: 10000}
}

// Login is the request by which a session of a user begins.
func Login(who int) string {
	return Post("/login", "", "user="+Name(who)+"&word="+Word(who))
}

// Post is a request with a body, and with the token of a session, if that is
// not empty.
func Post(path, token, body string) string {
	field := ""
	if token != "" {
		field = "Cookie: sid=" + token + "\r\n"
	}
	return "POST " + path + " HTTP/1.1\r\nHost: h\r\n" + field + "Content-Length: " + strconv.Itoa(len(body)) + "\r\n\r\n" + body
}

// Token is the one that a response's bytes tell.
func Token(out string) string {
	r, _, _ := reply.Parse(out)
	for _, f := range r.Fields {
		if token, ok := strings.CutPrefix(f.Value, "sid="); ok {
			return token
		}
	}
	return ""
}

// Script is what a web has done so far.
type Script struct {
	Config api.Config
	Web    *okws.Web
	Steps  []api.Step
	Outs   []api.Out
	Tokens []string // of each user the last session that Enter began
}

// New is the script without steps of a configuration.
func New(c api.Config) *Script {
	w, _ := okws.New(c)
	return &Script{Config: c, Web: w, Tokens: make([]string, len(c.Users))}
}

// Step does one more: the bytes that it let go out.
func (s *Script) Step(step api.Step) string {
	outs, e := s.Web.Step(step)
	if e != api.OK {
		return ""
	}
	s.Steps = append(s.Steps, step)
	s.Outs = append(s.Outs, outs...)
	if len(outs) == 0 {
		return ""
	}
	return outs[0].Bytes
}

// Pick picks a unit; a worker may spend a request's fuel.
func (s *Script) Pick(kind, at int) string {
	return s.Step(api.Step{Kind: kind, At: at, Ticks: s.Config.Fuel})
}

// Serve lets a request arrive and each unit do what it has to: what goes out.
func (s *Script) Serve(conn int, text string) string {
	s.Step(api.Step{Kind: api.StepArrive, At: conn, Bytes: text})
	out := s.Pick(api.StepConn, conn)
	s.Pick(api.StepIdd, conn)
	for who := range s.Config.Users {
		for s.Web.Busy(who) {
			s.Pick(api.StepWorker, who)
			s.Pick(api.StepTable, who)
		}
	}
	return out + s.Pick(api.StepConn, conn)
}

// Enter begins a session of a user at a connection.
func (s *Script) Enter(conn, who int) {
	s.Tokens[who] = Token(s.Serve(conn, Login(who)))
}

// Ask lets a user's worker do commands: the text by which it replies.
func (s *Script) Ask(conn, who int, commands string) string {
	r, _, _ := reply.Parse(s.Serve(conn, Post("/", s.Tokens[who], commands+".")))
	return r.Body
}
