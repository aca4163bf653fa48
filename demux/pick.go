package demux

import (
	"cloister/api"
	"cloister/uri"
)

const (
	loginPath   = "/login"
	logoutPath  = "/logout"
	post        = "POST"
	cookieField = "cookie"
	tokenCookie = "sid"
	namePair    = "user"
	wordPair    = "word"
)

// Pick lets a connection do its next thing.
func (d *Demux) Pick(conn int) (Act, api.Errno) {
	c := d.at(conn)
	if c == nil {
		return Act{}, api.ErrArg
	}
	return d.next(c), api.OK
}

// next is what a connection does that is picked.
func (d *Demux) next(c *connection) Act {
	switch {
	case c.state != open:
		return Act{}
	case c.answer != "":
		return c.sendAnswer()
	case c.handed != Nothing:
		return Act{}
	case c.lost:
		return c.sendStatus(tooLarge, true)
	}
	r, ok, status := c.parser.Next()
	switch {
	case status != 0:
		return c.sendStatus(status, true)
	case !ok:
		return Act{}
	case isPost(r, loginPath):
		return c.login(r)
	}
	return d.serve(c, r)
}

// login does a login: what is no form of one is told ahead of whose the
// connection is.
func (c *connection) login(r api.Request) Act {
	pairs, e, _ := uri.Form(r.Body)
	name, named := uri.Get(pairs, namePair)
	word, worded := uri.Get(pairs, wordPair)
	switch {
	case e != api.OK || !named || !worded:
		return c.sendStatus(wrong, r.Close)
	case c.user != nobody:
		return c.sendStatus(forbidden, r.Close)
	}
	return c.hand(Act{Kind: Login, Name: name, Word: word}, r.Close)
}

// serve does a request that is no login, for whose session its token is.
func (d *Demux) serve(c *connection, r api.Request) Act {
	token := tokenOf(r)
	user, ok := d.sessions[token]
	if !ok {
		return c.sendStatus(unknown, r.Close)
	}
	conns, asks := d.Counts(user)
	switch {
	case c.user != nobody && c.user != user:
		return c.sendStatus(forbidden, r.Close)
	case c.user == nobody && conns >= d.mostConns:
		return c.sendStatus(unavailable, true)
	}
	c.user = user
	switch {
	case isPost(r, logoutPath):
		return c.hand(Act{Kind: Logout, Token: token, User: user}, r.Close)
	case asks >= d.mostAsks:
		return c.sendStatus(unavailable, r.Close)
	}
	return c.hand(Act{Kind: Forward, User: user, Request: r}, r.Close)
}

// isPost tells whether a request posts to a path.
func isPost(r api.Request, path string) bool {
	return r.Head.Method == post && r.Path == path
}

// tokenOf is what the first cookie of a token tells; empty, if there is none,
// which is nobody's token.
func tokenOf(r api.Request) string {
	for _, f := range r.Head.Fields {
		if f.Name != cookieField {
			continue
		}
		if token, ok := uri.Get(uri.Cookies(f.Value), tokenCookie); ok {
			return token
		}
	}
	return ""
}
