package okws_test

import (
	"cloister/api"
	"fmt"
	"strings"
	"testing"
)

// takes is how many numbers each trap takes.
var takes = map[int]int{
	api.SysReply: 3, api.SysInput: 2, api.SysInsert: 5, api.SysUpdate: 5, api.SysDelete: 3, api.SysGet: 4, api.SysCount: 2,
	api.SysSend: 4, api.SysRecv: 2, api.SysMake: 0, api.SysGive: 2, api.SysWho: 0,
}

// of is a web of two users, of whom the first one is open, of a code of its own
// and an image; both have sessions.
func of(t *testing.T, image, text string) *pair {
	t.Helper()
	c := config(t, 2, 0b01)
	c.Code, c.Image = parsed(t, text), image
	return all(t, c)
}

// pushes are instructions that put numbers on the stack.
func pushes(numbers ...int) string {
	var out string
	for _, n := range numbers {
		out += fmt.Sprintf("push %d\n", n)
	}
	return out
}

// shows replies by the last number: the body is its last byte, two bytes of it
// telling also what is below 0.
const shows = "dup 0\npush 4000\nstore\npush 8\nshr\npush 4001\nstore\npush 200\npush 4000\npush 2\ntrap 1\n"

// number is what shows tells; of another status than 200 that, below 0.
func number(r api.Response) int {
	if r.Status != 200 || len(r.Body) != 2 {
		return -1000 * r.Status
	}
	return int(int16(uint16(r.Body[0]) | uint16(r.Body[1])<<8))
}

const failed = -500000

// Of each trap: as many numbers as it takes, and all that are less.
func TestTooFewNumbers(t *testing.T) {
	for trap, n := range takes {
		for have := range n + 2 {
			x := of(t, "key", pushes(make([]int, have)...)+fmt.Sprintf("trap %d\n", trap)+shows)
			before := fmt.Sprint(x.w.Rows(), x.w.Log())
			r := x.serves(0, gets("/", sid(x.tokens[0])))
			if have < n {
				if r.Status != 500 || r.Body != "" || r.Close {
					t.Errorf("trap %d of %d: %+v", trap, have, r)
				}
				if fmt.Sprint(x.w.Rows(), x.w.Log()) != before {
					t.Errorf("trap %d of %d changed something", trap, have)
				}
			} else if trap != api.SysReply && r.Status != 200 {
				t.Errorf("trap %d of %d: %+v", trap, have, r)
			}
			x.stands()
		}
	}
}

// Each trap takes the last numbers, and leaves those ahead of them.
func TestLastNumbers(t *testing.T) {
	for trap, n := range takes {
		if trap == api.SysReply {
			continue
		}
		x := of(t, "key", pushes(77, 78)+pushes(make([]int, n)...)+fmt.Sprintf("trap %d\npop\n", trap)+shows)
		if got := number(x.serves(0, gets("/", sid(x.tokens[0])))); got != 78 {
			t.Errorf("trap %d: %d", trap, got)
		}
		x = of(t, "key", pushes(77, 78)+pushes(make([]int, n)...)+fmt.Sprintf("trap %d\npop\npop\n", trap)+shows)
		if got := number(x.serves(0, gets("/", sid(x.tokens[0])))); got != 77 {
			t.Errorf("trap %d: %d", trap, got)
		}
		x.stands()
	}
}

// Numbers that are no trap.
func TestNoTrap(t *testing.T) {
	for trap := 13; trap <= 99; trap++ {
		for _, have := range []int{0, 5, 60} {
			x := of(t, "key", pushes(make([]int, have)...)+fmt.Sprintf("trap %d\n", trap)+shows)
			before := fmt.Sprint(x.w.Rows(), x.w.Log())
			if r := x.serves(0, gets("/", sid(x.tokens[0]))); r.Status != 500 || r.Body != "" || fmt.Sprint(x.w.Rows(), x.w.Log()) != before {
				t.Errorf("trap %d: %+v", trap, r)
			}
			if trap%20 == 0 {
				x.stands()
			}
		}
	}
}

// A trap whose answer finds no place on the stack: just those that take nothing.
func TestFullStack(t *testing.T) {
	for trap, n := range takes {
		for _, have := range []int{63, 64} {
			x := of(t, "key", pushes(make([]int, have)...)+fmt.Sprintf("trap %d\n", trap)+strings.Repeat("pop\n", 10)+shows)
			r := x.serves(0, gets("/", sid(x.tokens[0])))
			want := 200
			if n == 0 && have == 64 || trap == api.SysReply {
				want = 500
			}
			if r.Status != want {
				t.Errorf("trap %d of %d: %+v", trap, have, r)
			}
			x.stands()
		}
	}
	// What was made is made, though nobody is told.
	x := of(t, "", pushes(make([]int, 64)...)+"trap 10")
	x.serves(0, gets("/", sid(x.tokens[0])))
	x.wantGrants("-1 0 1000")
}

// wrongParts are places and sizes of which memory does not have all.
func wrongParts() [][2]int {
	return [][2]int{{-1, 0}, {-1, 1}, {0, -1}, {5, -5}, {4096, 1}, {4097, 0}, {0, 4097}, {4095, 2}, {1, 4096}, {greatest, 1}, {1, greatest}, {least, 0}, {0, least}, {greatest, greatest}, {least, least}}
}

// Texts that memory does not have, at each place where a trap asks for one.
func TestNoTexts(t *testing.T) {
	places := map[int][]int{api.SysReply: {1}, api.SysInsert: {0, 2}, api.SysUpdate: {0, 2}, api.SysDelete: {0}, api.SysGet: {0}, api.SysCount: {0}, api.SysSend: {1}}
	for trap, all := range places {
		for _, place := range all {
			for _, part := range wrongParts() {
				numbers := []int{200, 0, 0, 0, 0}[:takes[trap]]
				if trap != api.SysReply {
					numbers[0] = 0
				}
				numbers[place], numbers[place+1] = part[0], part[1]
				x := of(t, "key", pushes(numbers...)+fmt.Sprintf("trap %d\n", trap)+shows)
				before := fmt.Sprint(x.w.Rows(), x.w.Log())
				x.arrive(0, gets("/", sid(x.tokens[0])))
				x.conn(0)
				x.worker(0, 100) // without the table server
				if x.w.Busy(0) {
					t.Errorf("trap %d of %v waits", trap, part)
				}
				x.wantStatus(0, 500, false)
				if fmt.Sprint(x.w.Rows(), x.w.Log()) != before {
					t.Errorf("trap %d of %v changed something", trap, part)
				}
			}
		}
	}
}

// Texts of no bytes, at all places where they may be, and of all of memory.
func TestTextsAtEdges(t *testing.T) {
	for _, part := range [][2]int{{0, 0}, {4096, 0}, {1, 0}, {0, 4096}, {4095, 1}} {
		x := of(t, strings.Repeat("m", 4096), pushes(201, part[0], part[1])+"trap 1")
		if r := x.serves(0, gets("/", sid(x.tokens[0]))); r.Status != 201 || r.Body != strings.Repeat("m", part[1]) {
			t.Errorf("%v: %d", part, r.Status)
		}
		x = of(t, strings.Repeat("m", 4096), pushes(part[0], part[1])+"trap 7\n"+shows)
		if got := number(x.serves(0, gets("/", sid(x.tokens[0])))); got != 0 {
			t.Error(got)
		}
		x.stands()
	}
}

// SysReply: statuses, with a text.
func TestReply(t *testing.T) {
	for _, status := range []int{least, -200, -1, 0, 1, 99, 199, 200, 201, 204, 299, 404, 500, 503, 599, 600, 1000, 1<<32 + 200, greatest} {
		for _, text := range []string{"", "a text", "a\x00\r\n\r\nb\xff"} {
			x := of(t, text, pushes(status, 0, len(text))+"trap 1\n"+shows)
			r := x.serves(0, gets("/", sid(x.tokens[0])))
			want := api.Response{Status: status, Body: text}
			if status < 200 || status > 599 {
				want = api.Response{Status: 500}
			}
			if r.Status != want.Status || r.Body != want.Body || r.Close || len(r.Fields) > 0 || x.w.Busy(0) {
				t.Errorf("%d: %+v", status, r)
			}
		}
	}
}

// SysReply ends the request: nothing behind it is done, though ticks are left.
func TestReplyEnds(t *testing.T) {
	x := of(t, "hi", pushes(200, 0, 2)+"trap 1\ntrap 10\nhalt")
	for range 3 {
		if r := x.serves(0, gets("/", sid(x.tokens[0]))); r.Body != "hi" {
			t.Fatal(r)
		}
	}
	x.wantGrants()
	x.stands()
}

// A request's text: the method, the path, the query, the body.
func TestInputText(t *testing.T) {
	x := of(t, "", pushes(0, 4096)+"trap 2\npop\n"+pushes(200, 0, 300)+"trap 1")
	cookie := sid(x.tokens[0])
	for _, one := range []struct{ text, want string }{
		{gets("/", cookie), "GET /\n\n"},
		{gets("/a/b", cookie), "GET /a/b\n\n"},
		{gets("/%61%20b%0a", cookie), "GET /a b\n\n\n"},
		{gets("/?", cookie), "GET /\n\n"},
		{gets("/?a=1&b=2", cookie), "GET /\na=1&b=2\n"},
		{gets("/x?a=+%2B/%26&&b&=c", cookie), "GET /x\na=%20%2B%2F%26&b=&=c\n"},
		{gets("/x?%e9=%C3%A9", cookie), "GET /x\n%E9=%C3%A9\n"},
		{posts("/", "body\n\x00\xff", cookie), "POST /\n\nbody\n\x00\xff"},
		{request("PUT", "/p?q", "Transfer-Encoding: chunked", cookie) + "2\r\nab\r\n1\r\nc\r\n0\r\n\r\n", "PUT /p\nq=\nabc"},
		{posts("/login/", "user=a&word=wa", cookie), "POST /login/\n\nuser=a&word=wa"},
		{gets("/login?user=a", cookie), "GET /login\nuser=a\n"},
		{gets("/logout", cookie), "GET /logout\n\n"},
	} {
		y := x.copy() // whose memory nothing was laid into
		r := y.serves(0, one.text)
		if want := one.want + strings.Repeat("\x00", 300-len(one.want)); r.Status != 200 || r.Body != want {
			t.Errorf("%q: %d, %q", one.text, r.Status, strings.TrimRight(r.Body, "\x00"))
		}
		y.stands()
	}
}

// The longest requests fit: a query that is written longer, and a body.
func TestInputLongest(t *testing.T) {
	x := of(t, "", pushes(0, 4096)+"trap 2\npop\n"+pushes(200, 0, 4096)+"trap 1")
	query := strings.Repeat("%26", 200) + "=" + strings.Repeat("/", 300)
	want := "POST /\n" + strings.Repeat("%26", 200) + "=" + strings.Repeat("%2F", 300) + "\n"
	r := x.serves(0, posts("/?"+query, strings.Repeat("b", 1<<14), sid(x.tokens[0])))
	if r.Status != 200 || r.Body != want+strings.Repeat("b", 4096-len(want)) {
		t.Errorf("%d, %d", r.Status, len(r.Body))
	}
	x.stands()
}

// SysInput: where it is laid, and how much of it.
func TestInputMost(t *testing.T) {
	const text = "GET /ab\n\n"
	for _, most := range []int{least, -1, 0, 1, 8, 9, 10, 4096, 4097, greatest} {
		for _, at := range []int{0, 5, 3000, 4086, 4087, 4088, 4095, 4096, 4097, -1, least, greatest} {
			n := min(max(most, 0), len(text))
			x := of(t, "", pushes(at, most)+"trap 2\n"+shows)
			got := number(x.serves(0, gets("/ab", sid(x.tokens[0]))))
			fits := at >= 0 && at <= 4096 && at+n <= 4096
			if fits && got != n || !fits && got != failed {
				t.Errorf("SysInput %d, %d: %d", at, most, got)
			}
			if !fits {
				continue
			}
			size := min(20, 4096-at)
			x = of(t, strings.Repeat(".", 4096), pushes(at, most)+"trap 2\npop\n"+pushes(200, at, size)+"trap 1")
			if r := x.serves(0, gets("/ab", sid(x.tokens[0]))); r.Body != (text[:n] + strings.Repeat(".", 20))[:size] {
				t.Errorf("SysInput %d, %d: %q", at, most, r.Body)
			}
		}
	}
}

// SysWho, SysMake: numbers of users of all places.
func TestWhoAndMake(t *testing.T) {
	c := config(t, 16, 0)
	x := all(t, c)
	for user := range 16 {
		x.wants(user, fmt.Sprint(user, " ", 1000*user+1000, " ", 1000*user+1001), who(), makes(), makes())
	}
	x.stands()
}

// SysMake: as often as it may be, and once more.
func TestMakeAll(t *testing.T) {
	x := all(t, config(t, 2, 0))
	var want []string
	for k := range 16 {
		x.wants(1, fmt.Sprint(2000+k), makes())
		want = append(want, fmt.Sprint("-1 1 ", 2000+k))
	}
	for range 3 {
		x.wants(1, "-1", makes())
	}
	x.wantGrants(want...)
	x.wants(0, "1000 1001", makes(), makes())
	if g := x.w.Log().Grants; g[2].Step == g[3].Step || g[2].Step != x.stepOf(1, 0) {
		t.Error(g[2], g[3])
	}
	x.stands()
}

// stepOf is the step of the worker of a user by which its request of that number
// began.
func (x *pair) stepOf(user, request int) int {
	for k, s := range x.steps {
		if s.Kind == api.StepWorker && s.At == user {
			if request == 0 {
				return k
			}
			request--
		}
	}
	return -1
}

// SysInsert: at one's own secrecy and at none, by one that is open and one that
// is not; of keys that are there.
func TestInsert(t *testing.T) {
	x := all(t, config(t, 3, 0b001))
	x.wants(0, "0 120 0 120", insert("k", "a", 0), insert("k", "b", 0), insert("k", "c", 1), insert("k", "d", 1))
	x.wants(1, "0 120 21 21", insert("k", "e", 0), insert("k", "f", 0), insert("k", "g", 1), insert("l", "g", 1))
	x.wants(2, "0 21", insert("l", "", 0), insert("k", "h", -1))
	x.wants(0, "0 0 0", insert("m", "x", 1<<62), insert("n", "y", -1), insert("o", "z", least))
	x.wantChanges("0 1 k [1] [2]", "0 1 k [] [2]", "1 1 k [3] [4]", "2 1 l [5] [6]", "0 1 m [] [2]", "0 1 n [] [2]", "0 1 o [] [2]")
	x.wantUses("0 [1] insert k c", "0 [1] insert m x", "0 [1] insert n y", "0 [1] insert o z")
	if rows := fmt.Sprint(x.w.Rows()); rows != "[{k [c] {[] [2]} 0} {k [a] {[1] [2]} 0} {k [e] {[3] [4]} 1} {l [] {[5] [6]} 2} {m [x] {[] [2]} 0} {n [y] {[] [2]} 0} {o [z] {[] [2]} 0}]" {
		t.Error(rows)
	}
	x.stands()
}

// SysInsert, SysUpdate, SysDelete, SysGet: keys and cells that may not be.
func TestWrongRows(t *testing.T) {
	x := all(t, config(t, 1, 1))
	long, longest := strings.Repeat("k", 65), strings.Repeat("k", 64)
	x.wants(0, "110 110 110 110", insert("", "c", 0), insert(long, "c", 0), insert("k", strings.Repeat("c", 257), 0), insert("", "c", 1))
	x.wants(0, "110 110 110 110", update("", "c", 0), update(long, "c", 0), update("k", strings.Repeat("c", 257), 0), update("", "c", 1))
	x.wants(0, "110 110 110", remove("", 0), remove(long, 0), remove("", 1))
	x.wants(0, "-1 -1 0 0", get(""), get(long), count(long), count(""))
	x.wants(0, "0 0 0 0", insert(longest, strings.Repeat("c", 256), 0), insert("\x00", "", 0), update(longest, "", 0), remove(longest, 0))
	x.wants(0, "0: 1", get("\x00"), count("\x00"))
	x.wantUses()
	x.stands()
}

// SysUpdate and SysDelete: what is there, or is not, or is another one's; at one's
// own secrecy and at none.
func TestUpdateAndDelete(t *testing.T) {
	for _, kind := range []int{api.OpUpdate, api.OpDelete} {
		c := config(t, 3, 0b011)
		c.Rows = []api.Row{
			{Key: "plain", Cells: []string{"a", "b"}, Who: -1},
			{Key: "mine", Label: api.Label{S: []int{1}}, Who: -1},
			{Key: "vouched", Label: api.Label{I: []int{2, 4}}, Who: -1},
			{Key: "alien", Label: api.Label{S: []int{3}}, Who: -1},
			{Key: "both", Label: api.Label{S: []int{1, 3}}, Who: -1},
		}
		x := all(t, c)
		do := func(key string, open int) command {
			if kind == api.OpUpdate {
				return update(key, "new", open)
			}
			return remove(key, open)
		}
		x.wants(2, "21 3 3 21", do("plain", 1), do("plain", 0), do("none", 1), do("vouched", 1))
		x.wants(0, "3 3 21 3 3", do("plain", 0), do("mine", 1), do("vouched", 1), do("alien", 0), do("alien", 1))
		x.wants(0, "3 3", do("both", 0), do("both", 1))
		x.wantChanges()
		x.wants(0, "0 0", do("plain", 1), do("mine", 0))
		x.wants(1, "0", gives(0, 4))
		x.wants(0, "0", do("vouched", 1))
		x.wants(1, "0", do("alien", 0))
		x.wantChanges(fmt.Sprint("0 ", kind, " plain [] []"), fmt.Sprint("0 ", kind, " mine [1] []"), fmt.Sprint("0 ", kind, " vouched [] [2 4]"), fmt.Sprint("1 ", kind, " alien [3] []"))
		if kind == api.OpUpdate {
			x.wantUses("0 [1] update plain new", "1 [3] give 4 0", "0 [1] update vouched new")
			x.wants(0, "3:new 3:new", get("plain"), get("mine"))
		} else {
			x.wantUses("0 [1] delete plain", "1 [3] give 4 0", "0 [1] delete vouched")
			if rows := fmt.Sprint(x.w.Rows()); rows != "[{both [] {[1 3] []} -1}]" {
				t.Error(rows)
			}
		}
		x.stands()
	}
}

// A quota that is full: of inserts and updates, till something is deleted; of
// nobody else.
func TestQuota(t *testing.T) {
	c := config(t, 2, 0b11)
	c.Quota = 36 // of two rows of a key and a cell of a byte each
	x := all(t, c)
	x.wants(0, "0 0 121 121 120", insert("a", "x", 0), insert("b", "y", 1), insert("c", "", 0), insert("c", "", 1), insert("a", "", 0))
	x.wants(0, "121 0 0 121 0", update("a", "xx", 0), update("a", "", 0), update("b", "yy", 1), update("a", "x", 0), remove("b", 1))
	x.wants(0, "0 121", insert("c", "z", 0), insert("d", "", 1))
	x.wants(1, "0", insert("a", "x", 0))
	x.wants(1, "121 0", insert("b", "yy", 1), insert("b", "y", 1))
	x.wantUses("0 [1] insert b y", "0 [1] update b yy", "0 [1] delete b", "1 [3] insert b y")
	x.stands()
}

// SysGet: what one sees and what one does not; how much of it is laid.
func TestGet(t *testing.T) {
	c := config(t, 2, 0b10)
	c.Rows = []api.Row{
		{Key: "two", Cells: []string{"open", "other"}, Who: -1},
		{Key: "two", Cells: []string{"first's"}, Label: api.Label{S: []int{1}}, Who: -1},
		{Key: "own", Cells: []string{"of the second"}, Label: api.Label{S: []int{3}}, Who: -1},
		{Key: "none", Who: -1},
		{Key: "twice", Cells: []string{"both's"}, Label: api.Label{S: []int{1, 3}}, Who: -1},
		{Key: "empty", Cells: []string{"", "x"}, Who: -1},
		{Key: "made", Cells: []string{"made"}, Label: api.Label{S: []int{1000}}, Who: -1},
		{Key: "long", Cells: []string{strings.Repeat("c", 90)}, Who: -1},
	}
	x := all(t, c)
	x.wants(0, "4:open -1 0: -1 0: -1", get("two"), get("own"), get("none"), get("twice"), get("empty"), get("x"))
	x.wants(1, "4:open 13:of the second -1 -1", get("two"), get("own"), get("twice"), get("made"))
	x.wants(0, "1000 4:made", makes(), get("made"))
	x.wants(1, "0", gives(0, 3))
	x.wants(0, "6:both's 13:of the second", get("twice"), get("own"))
	x.wants(0, "0: 0: 1:o 4:open 4:open -1", getMost("two", -1), getMost("two", 0), getMost("two", 1), getMost("two", 4), getMost("two", 5), getMost("x", -1))
	x.wants(0, "90:"+strings.Repeat("c", 90)+" 89:"+strings.Repeat("c", 89), get("long"), getMost("long", 89))
	x.wantChanges()
	x.stands()
}

// SysGet: an answer that can not be laid; one of no row is not laid.
func TestGetNotLaid(t *testing.T) {
	for _, at := range []int{0, 4092, 4093, 4096, 4097, -1, least, greatest} {
		for _, most := range []int{least, -1, 0, 3, 4, greatest} {
			x := all(t, func() api.Config {
				c := config(t, 1, 0)
				c.Code, c.Image = parsed(t, pushes(100, 3, at, most)+"trap 6\n"+shows), strings.Repeat(".", 100)+"key"
				c.Rows = []api.Row{{Key: "key", Cells: []string{"cell"}, Who: -1}}
				return c
			}())
			n := min(max(most, 0), 4)
			want := n
			if at < 0 || at > 4096 || at+n > 4096 {
				want = failed
			}
			if got := number(x.serves(0, gets("/", sid(x.tokens[0])))); got != want {
				t.Errorf("SysGet %d, %d: %d; want %d", at, most, got, want)
			}
			x.stands()
			x = of(t, strings.Repeat(".", 100)+"key", pushes(100, 3, at, most)+"trap 6\n"+shows)
			if got := number(x.serves(0, gets("/", sid(x.tokens[0])))); got != -1 {
				t.Errorf("SysGet %d, %d of nothing: %d", at, most, got)
			}
		}
	}
}

// SysCount: what one sees and what one does not; keys that begin with the text;
// how many at the most.
func TestCount(t *testing.T) {
	c := config(t, 2, 0)
	for k := range 300 {
		c.Rows = append(c.Rows, api.Row{Key: fmt.Sprintf("many%03d", k), Who: -1})
	}
	for _, key := range []string{"a", "ab", "aba", "abb", "ac", "b", "a\xff", "a\x00"} {
		c.Rows = append(c.Rows, api.Row{Key: key, Who: -1}, api.Row{Key: key, Label: api.Label{S: []int{1}}, Who: -1}, api.Row{Key: key + "s", Label: api.Label{S: []int{3}}, Who: -1})
	}
	x := all(t, c)
	x.wants(0, "14 6 2 2 0 2 2 2", count("a"), count("ab"), count("aba"), count("b"), count("bs"), count("ac"), count("a\xff"), count("a\x00"))
	x.wants(1, "14 6 2 2 1 1", count("a"), count("ab"), count("aba"), count("b"), count("bs"), count("as"))
	x.wants(0, "256 256 100 0 0", count(""), count("many"), count("many1"), count("n"), count(strings.Repeat("a", 200)))
	x.wantChanges()
	x.stands()
}

// SysSend, SysRecv: to oneself, to another one, to nobody; open and not.
func TestSend(t *testing.T) {
	x := all(t, config(t, 3, 0b001))
	x.wants(0, "0 0 0 0 1 1 1 1", send(0, "self", 0), send(1, "shut", 0), send(1, "open", 1), send(2, "also", -7), send(3, "x", 1), send(-1, "x", 1), send(1<<62, "x", 0), send(least, "x", 0))
	x.wants(1, "4:open -1 0 0", recv(), recv(), send(0, "shut", 1), send(1, "mine", 1))
	x.wants(0, "4:self -1", recv(), recv())
	x.wants(1, "4:mine", recv())
	x.wants(2, "4:also -1", recv(), recv())
	x.wantUses("0 [1] send 1 open", "0 [1] send 2 also")
	// Who is given the secrecy of another one may use it.
	x.wants(0, "0", gives(1, 1))
	x.wants(1, "0 0", send(0, "shut", 1), send(0, "yet", 1))
	x.wants(0, "-1", recv())
	x.stands()
}

// SysSend: texts of each length.
func TestSendTexts(t *testing.T) {
	for _, n := range []int{0, 1, 1023, 1024, 1025, 4096} {
		for _, open := range []int{0, 1} {
			x := of(t, strings.Repeat("m", 4096), pushes(1, 0, n, open)+"trap 8\n"+shows)
			want := 0
			if n > 1024 {
				want = 4
			}
			if got := number(x.serves(0, gets("/", sid(x.tokens[0])))); got != want {
				t.Errorf("SysSend of %d: %d", n, got)
			}
			if open == 1 && n <= 1024 {
				x.wantUses("0 [1] send 1 " + strings.Repeat("m", n))
			} else {
				x.wantUses()
			}
			x.stands()
		}
	}
}

// SysSend: a mailbox that is full; what is dropped was used too.
func TestFullMailbox(t *testing.T) {
	x := all(t, config(t, 2, 0b11))
	var want []string
	for k := range 66 {
		x.wants(0, "0", send(1, fmt.Sprint("m", k), 1))
		want = append(want, fmt.Sprint("0 [1] send 1 m", k))
	}
	x.wantUses(want...)
	for k := range 64 {
		m := fmt.Sprint("m", k)
		x.wants(1, fmt.Sprint(len(m), ":", m), recv())
	}
	x.wants(1, "-1", recv())
	x.stands()
}

// SysRecv: how much is laid; what is not laid is gone too.
func TestRecvMost(t *testing.T) {
	x := all(t, config(t, 1, 0))
	for _, most := range []int{least, -1, 0, 1, 4, 5, 6, 2000, 65535, 1 << 62} {
		n := min(max(most, 0), 5)
		x.wants(0, fmt.Sprint("0 0 ", n, ":", "hello"[:n], " 4:next -1"), send(0, "hello", 0), send(0, "next", 0), laid(api.SysRecv, most), recv(), recv())
	}
	for _, at := range []int{least, -1, 4092, 4096, 4097, greatest} {
		x := of(t, "hello", pushes(0, 0, 5, 0)+"trap 8\npop\n"+pushes(at, 9)+"trap 9\n"+shows)
		r := x.serves(0, gets("/", sid(x.tokens[0])))
		if r.Status != 500 || r.Body != "" {
			t.Error(at, r)
		}
		y := x.copy()
		y.serves(0, gets("/", sid(y.tokens[0])))
		y.stands()
	}
	x = of(t, "hello", pushes(0, 0, 5, 0)+"trap 8\npop\n"+pushes(4091, 9)+"trap 9\n"+shows)
	if got := number(x.serves(0, gets("/", sid(x.tokens[0])))); got != 5 {
		t.Error(got)
	}
	// Of no message nothing is laid.
	for _, at := range []int{least, -1, 4097, greatest} {
		x := of(t, "", pushes(at, 9)+"trap 9\n"+shows)
		if got := number(x.serves(0, gets("/", sid(x.tokens[0])))); got != -1 {
			t.Error(at, got)
		}
	}
	x.stands()
}

// SysGive: to nobody, by one that is not open, what is not owned, and twice.
func TestGive(t *testing.T) {
	x := all(t, config(t, 3, 0b001))
	x.wants(0, "1 1 1 1", gives(3, 2), gives(-1, 2), gives(1<<62, 77), gives(least, 2))
	x.wants(0, "3 3 3 3", gives(1, 4), gives(1, 0), gives(1, -1), gives(0, 6))
	x.wants(1, "21 21 21 1 1", gives(0, 4), gives(2, 4), gives(0, 99), gives(3, 4), gives(16, 99))
	x.wants(1, "0 3 3", gives(1, 4), gives(1, 3), gives(1, 2)) // to itself it lacks nothing
	x.wantGrants()
	x.wantUses()
	x.wants(0, "0 0", gives(1, 2), gives(1, 2))
	x.wantGrants("0 1 2")
	x.wantUses("0 [1] give 2 1", "0 [1] give 2 1")
	x.wants(0, "0 0", gives(0, 2), gives(0, 1))
	x.wants(0, "0", gives(1, 1)) // also its secrecy
	x.wantGrants("0 1 2", "0 1 1")
	x.wants(1, "21 21", gives(2, 2), gives(0, 4)) // its own secrecy it has not
	x.wants(0, "1000 0 0", makes(), gives(2, 1000), gives(2, 2))
	x.wantGrants("0 1 2", "0 1 1", "-1 0 1000", "0 2 1000", "0 2 2")
	x.wantUses("0 [1] give 2 1", "0 [1] give 2 1", "0 [1] give 1 1", "0 [1] give 1000 2", "0 [1] give 2 2")
	x.stands()
}

// Another user's secrecy lets one see its rows; it does not open what is one's own.
func TestGivenSecrecy(t *testing.T) {
	x := all(t, config(t, 2, 0b10))
	x.wants(0, "21 0 21", insert("k", "v", 1), send(1, "m", 1), gives(1, 2))
	x.wants(1, "0 -1", gives(0, 3), recv())
	x.wants(0, "21 21 0", insert("k", "v", 1), gives(1, 2), who()) // it has the other one's, not its own
	x.wants(1, "0 -1", insert("k", "of 1", 0), recv())
	x.wants(0, "4:of 1 3 3", get("k"), update("k", "w", 0), update("k", "w", 1))
	x.wantUses("1 [3] give 3 0")
	x.stands()
}
