package demux

import (
	"cloister/api"
	"cloister/parse"
	"cloister/reply"
)

// The states of a connection, in their order.
const (
	unused = iota
	open
	closed
)

// The statuses by which connections answer by themselves.
const (
	wrong       = 400
	unknown     = 401
	forbidden   = 403
	tooLarge    = 413
	failed      = 500
	unavailable = 503
)

// connection is one: a closed one holds no more than whose it is, and what it
// waits for.
type connection struct {
	state int
	user  int
	// parser has the bytes of one that is open.
	parser *parse.Parser
	// lost tells that bytes found no room.
	lost bool
	// handed is the kind of the act that it waits for: Nothing, if it does not.
	handed int
	// closes tells whether the request that was handed on last closes; as soon
	// as there is an answer to it, whether that closes.
	closes bool
	// answer are the bytes of the answer that has not gone out; none, if there
	// is no such answer.
	answer string
}

// hand hands something on for a request, for which the connection waits.
func (c *connection) hand(a Act, closes bool) Act {
	c.handed, c.closes = a.Kind, closes
	return a
}

// take takes the answer to what the connection waits for.
func (c *connection) take(r api.Response) {
	c.handed = Nothing
	if c.state != open {
		return
	}
	r.Close = r.Close || c.closes
	c.answer, c.closes = printed(r), r.Close
}

// sendAnswer lets the answer that is there go out.
func (c *connection) sendAnswer() Act {
	out := c.answer
	c.answer = ""
	return c.emit(out, c.closes)
}

// sendStatus lets a status without a text go out.
func (c *connection) sendStatus(status int, closes bool) Act {
	return c.emit(printed(reply.Plain(status, "", closes)), closes)
}

// emit lets bytes go out; the last ones, if they close the connection.
func (c *connection) emit(out string, closes bool) Act {
	if closes {
		c.end()
	}
	return Act{Kind: Emit, Out: out, Close: closes}
}

// end closes the connection. What it waits for still counts till it is answered.
func (c *connection) end() {
	*c = connection{state: closed, user: c.user, handed: c.handed}
}

// printed are a response's bytes; those of 500, if it may not be.
func printed(r api.Response) string {
	out, e := reply.Print(r)
	if e != api.OK {
		out, _ = reply.Print(reply.Plain(failed, "", r.Close))
	}
	return out
}
