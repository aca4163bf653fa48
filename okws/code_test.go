package okws_test

import (
	"cloister/api"
	"cloister/code"
	"cloister/reply"
	"crypto/sha256"
	"fmt"
	"strings"
	"testing"
)

// parsed are the instructions of a text in which places may have names: a line
// with a colon at its end gives one to the next instruction.
func parsed(t *testing.T, text string) []api.Instr {
	t.Helper()
	places := map[string]int{}
	var lines []string
	for _, line := range strings.Split(text, "\n") {
		line = strings.TrimSpace(line)
		if name, ok := strings.CutSuffix(line, ":"); ok {
			places[name] = len(lines)
		} else if line != "" {
			lines = append(lines, line)
		}
	}
	for i, line := range lines {
		if name, to, ok := strings.Cut(line, " "); ok && (name == "jump" || name == "if" || name == "call") {
			if place, there := places[to]; there {
				lines[i] = fmt.Sprintf("%s %d", name, place)
			}
		}
	}
	l, e, at := code.Parse(strings.Join(lines, "\n"))
	if e != api.OK {
		t.Fatalf("the test's own code is none: %v, at %d", e, at)
	}
	return l
}

// Places of the memory of an event process that reads commands.
const (
	inputAt   = 1024
	textsAt   = inputAt + len("POST /\n\n") + 2
	numbersAt = 3200
	laidAt    = 3456
	savedAt   = 4000
	laidRoom  = 90 // of each text that is laid; a longer one may be the last
)

// reader is the code of an event process that does what its request's body says.
// That body is how many bytes its texts have, by two bytes, the texts, and
// commands; where it reads stands last on the stack, or is saved during a trap.
func reader(t *testing.T) []api.Instr {
	var out strings.Builder
	fmt.Fprintf(&out, `
		push %d
		push 2048
		trap 2
		pop
		push %d
		load
		push 8
		shl
		push %d
		load
		add
		push %d
		add
		loop:
		dup 0
		load
	`, inputAt, textsAt-2, textsAt-1, textsAt)
	var handlers strings.Builder
	on := func(command byte, text string) {
		fmt.Fprintf(&out, "dup 0\npush %d\neq\nif do%d\n", command, command)
		fmt.Fprintf(&handlers, "do%d:\npop\n%s\n", command, text)
	}
	number := "dup 0\npush 1\nadd\nload\npush 8\nshl\ndup 1\npush 2\nadd\nload\nadd\n"
	on('n', number+"swap\npush 3\nadd\njump loop")
	on('-', number+"push -1\nmul\nswap\npush 3\nadd\njump loop")
	on('g', "push 4611686018427387904\nswap\njump step")
	on('G', "push -9223372036854775808\nswap\njump step")
	on('d', "dup 1\nswap\njump step")
	on('x', "swap\npop\njump step")
	on('w', "call save\ndup 1\ndup 1\nstore\nswap\npush 8\nshr\nswap\npush 1\nadd\nstore\njump next")
	on('L', "forever:\njump forever")
	on('F', "ret")
	for _, trap := range traps {
		on(byte(128+trap), fmt.Sprintf("call save\ntrap %d\njump next", trap))
	}
	fmt.Fprintf(&out, "halt\n%s", &handlers)
	fmt.Fprintf(&out, `
		save:
		dup 0
		push 255
		and
		push %d
		store
		push 8
		shr
		push %d
		store
		ret
		next:
		push %d
		load
		push %d
		load
		push 8
		shl
		add
		step:
		push 1
		add
		jump loop
	`, savedAt, savedAt+1, savedAt, savedAt+1)
	return parsed(t, out.String())
}

// traps are those that the reader's commands may ask for; the last two are none.
var traps = []int{1, 2, 3, 4, 5, 6, 7, 8, 9, 10, 11, 12, 13, 99}

// body is a request's: texts, commands, and what of it is told.
type body struct {
	texts    []byte
	commands []byte
	kept     []bool // of each number that is kept whether it tells how much was laid
	laid     int    // where the next text is laid
}

// command is something that a body asks for.
type command func(b *body)

// num puts numbers on the stack.
func (b *body) num(numbers ...int) {
	for _, n := range numbers {
		switch {
		case n == 1<<62:
			b.commands = append(b.commands, 'g')
		case n == least:
			b.commands = append(b.commands, 'G')
		case n < 0:
			b.commands = append(b.commands, '-', byte(-n>>8), byte(-n))
		default:
			b.commands = append(b.commands, 'n', byte(n>>8), byte(n))
		}
	}
}

// text puts on the stack where a text is.
func (b *body) text(s string) {
	b.num(textsAt+len(b.texts), len(s))
	b.texts = append(b.texts, s...)
}

func (b *body) trap(t int) { b.commands = append(b.commands, byte(128+t)) }

// keep keeps the last number among those that are told.
func (b *body) keep() {
	b.num(numbersAt + 2*len(b.kept))
	b.commands = append(b.commands, 'w')
	b.kept = append(b.kept, false)
}

// call asks for a trap with numbers and texts, and keeps what it tells.
func call(trap int, of ...any) command {
	return func(b *body) {
		for _, v := range of {
			if s, ok := v.(string); ok {
				b.text(s)
			} else {
				b.num(v.(int))
			}
		}
		b.trap(trap)
		b.keep()
	}
}

// laid asks for a trap that lays a text, the last of whose numbers is the most.
func laid(trap int, most int, of ...any) command {
	return func(b *body) {
		call(trap, append(of, laidAt+b.laid, most)...)(b)
		b.kept[len(b.kept)-1] = true
		b.laid += laidRoom
	}
}

func insert(key, cell string, open int) command { return call(api.SysInsert, key, cell, open) }
func update(key, cell string, open int) command { return call(api.SysUpdate, key, cell, open) }
func remove(key string, open int) command       { return call(api.SysDelete, key, open) }
func get(key string) command                    { return laid(api.SysGet, 256, key) }
func getMost(key string, most int) command      { return laid(api.SysGet, most, key) }
func count(text string) command                 { return call(api.SysCount, text) }
func send(to int, text string, open int) command {
	return call(api.SysSend, to, text, open)
}
func recv() command             { return laid(api.SysRecv, 256) }
func makes() command            { return call(api.SysMake) }
func gives(to, cat int) command { return call(api.SysGive, to, cat) }
func who() command              { return call(api.SysWho) }

// does is a plain command.
func does(c byte) command { return func(b *body) { b.commands = append(b.commands, c) } }

// whole is the body of commands, which replies behind them by what was kept.
func whole(commands ...command) (string, *body) {
	b := &body{}
	for _, c := range commands {
		c(b)
	}
	b.num(200, numbersAt, savedAt-numbersAt)
	b.trap(api.SysReply)
	return fmt.Sprintf("%c%s%s", len(b.texts)>>8, string([]byte{byte(len(b.texts))})+string(b.texts), b.commands), b
}

// reads is what a response tells of what was kept: numbers, each that tells how
// much was laid with that behind a colon; of another one than 200 its status.
func (b *body) reads(r api.Response) string {
	if r.Status != 200 {
		return fmt.Sprint(r.Status, r.Body)
	}
	var out []string
	at := laidAt - numbersAt
	for k, isLaid := range b.kept {
		n := int(int16(uint16(r.Body[2*k]) | uint16(r.Body[2*k+1])<<8))
		told := fmt.Sprint(n)
		if isLaid && n >= 0 {
			told += ":" + r.Body[at:at+n]
		}
		if isLaid {
			at += laidRoom
		}
		out = append(out, told)
	}
	return strings.Join(out, " ")
}

const ends = "Connection: close"

func request(method, path string, fields ...string) string {
	return method + " " + path + " HTTP/1.1\r\nHost: a\r\n" + strings.Join(append(fields, "", ""), "\r\n")
}

// gets is the text of a request without a body.
func gets(path string, fields ...string) string { return request("GET", path, fields...) }

// posts is the text of a request with a body.
func posts(path, body string, fields ...string) string {
	return request("POST", path, append(fields, fmt.Sprint("Content-Length: ", len(body)))...) + body
}

// sid is a field with a token.
func sid(token string) string { return "Cookie: sid=" + token }

// people are so many users, those of whom the bit of their number is set open.
// Their names are a, b and so on, their words those behind a w.
func people(n, open int) []api.User {
	var out []api.User
	for who := range n {
		name := string(rune('a' + who))
		digest := sha256.Sum256([]byte("\x05salt" + name + word(who)))
		out = append(out, api.User{Name: name, Salt: "salt" + name, Digest: fmt.Sprintf("%x", digest), Open: open>>who&1 == 1})
	}
	return out
}

// config is a configuration of so many users, whose event processes read
// commands.
func config(t *testing.T, n, open int) api.Config {
	return api.Config{Users: people(n, open), Draws: []int{3, -1, 4}, Code: reader(t), Conns: 64, Asks: 64, Quota: 100000, Fuel: 1 << 20}
}

// signIn is the text of a login.
func signIn(who int, word string) string {
	return posts("/login", fmt.Sprintf("user=%c&word=%s", 'a'+who, word))
}

// word is a user's.
func word(who int) string { return "w" + string(rune('a'+who)) }

// parsedReply is the only response of bytes.
func (x *pair) parsedReply(s string) api.Response {
	x.t.Helper()
	r, n, e := reply.Parse(s)
	if e != api.OK || n != len(s) {
		x.t.Fatalf("%q: %v, %d", s, e, n)
	}
	return r
}

// enter lets a session of a user begin at a connection: its token.
func (x *pair) enter(conn, who int) string {
	x.t.Helper()
	x.arrive(conn, signIn(who, word(who)))
	x.conn(conn)
	x.idd(conn)
	r := x.parsedReply(x.conn(conn))
	if r.Status != 200 || r.Body != "welcome" || len(r.Fields) != 1 || r.Fields[0].Name != "set-cookie" || !strings.HasPrefix(r.Fields[0].Value, "sid=") {
		x.t.Fatalf("login of %d: %+v", who, r)
	}
	return r.Fields[0].Value[4:]
}

// all is a web whose users have sessions: the connection of the number of each
// user is its own from its first request on.
func all(t *testing.T, c api.Config) *pair {
	t.Helper()
	x := made(t, c)
	for who := range c.Users {
		x.tokens[who] = x.enter(63-who, who)
	}
	return x
}

// finish lets a user's event process run till it has nothing to do.
func (x *pair) finish(user int) {
	x.t.Helper()
	for range 1000 {
		if !x.w.Busy(user) {
			return
		}
		x.worker(user, 1<<20)
		x.table(user)
	}
	x.t.Fatal(user, "never ends")
}

// serves sends a user's request at the connection of its number, and is what
// that is answered.
func (x *pair) serves(user int, text string) api.Response {
	x.t.Helper()
	x.arrive(user, text)
	x.conn(user)
	x.finish(user)
	return x.parsedReply(x.conn(user))
}

// asks is what a user is told of commands.
func (x *pair) asks(user int, commands ...command) string {
	x.t.Helper()
	text, b := whole(commands...)
	return b.reads(x.serves(user, posts("/", text, sid(x.tokens[user]))))
}

// wants holds what a user is told of commands against what it should be told.
func (x *pair) wants(user int, want string, commands ...command) {
	x.t.Helper()
	if got := x.asks(user, commands...); got != want {
		x.t.Fatalf("user %d is told %q; want %q", user, got, want)
	}
}

// wantUses holds the uses against what they should be: who, which, what.
func (x *pair) wantUses(want ...string) {
	x.t.Helper()
	var got []string
	for _, u := range x.w.Log().Uses {
		got = append(got, fmt.Sprint(u.Who, " ", u.Cats, " ", u.What))
	}
	if fmt.Sprintf("%q", got) != fmt.Sprintf("%q", want) {
		x.t.Fatalf("Uses: %q; want %q", got, want)
	}
}

// wantChanges holds the changes against what they should be: who, kind, key,
// secrecy, integrity.
func (x *pair) wantChanges(want ...string) {
	x.t.Helper()
	var got []string
	for _, c := range x.w.Log().Changes {
		got = append(got, fmt.Sprint(c.Who, " ", c.Kind, " ", c.Key, " ", c.S, " ", c.I))
	}
	if fmt.Sprintf("%q", got) != fmt.Sprintf("%q", want) {
		x.t.Fatalf("Changes: %q; want %q", got, want)
	}
}

// wantGrants holds the grants behind the first ones against what they should be:
// from whom, to whom, what.
func (x *pair) wantGrants(want ...string) {
	x.t.Helper()
	var got []string
	for _, g := range x.w.Log().Grants {
		if g.Step >= 0 {
			got = append(got, fmt.Sprint(g.From, " ", g.To, " ", g.Cat))
		}
	}
	if fmt.Sprintf("%q", got) != fmt.Sprintf("%q", want) {
		x.t.Fatalf("Grants: %q; want %q", got, want)
	}
}
