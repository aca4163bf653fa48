package parse_test

import (
	"cloister/api"
	"cloister/head"
	"cloister/parse"
	"cloister/uri"
	"fmt"
	"math"
	"math/rand"
	"reflect"
	"regexp"
	"slices"
	"strconv"
	"strings"
	"sync"
	"testing"
	"unsafe"
)

const (
	get   = "GET /x?a=b HTTP/1.1\r\nHost: a\r\n\r\n"
	post  = "POST /y HTTP/1.1\r\nHost: a\r\n"
	codes = post + "Transfer-Encoding: chunked\r\n\r\n"
	abc   = "3\r\nabc\r\n0\r\n\r\n"
)

var (
	wholeLine = regexp.MustCompile(`^([0-9A-Fa-f]{1,8})(;[\t -~]*)?\r\n`)
	partLine  = regexp.MustCompile(`^([0-9A-Fa-f]{0,8}|[0-9A-Fa-f]{1,8}(;[\t -~]*)?\r?)$`)
	wholeHead = regexp.MustCompile("^[A-Z]{1,16} [!-~]+ HTTP/1\\.[01]\r\n([A-Za-z0-9!#$%&'*+\\-.^_`|~]+:[\t -~]*\r\n)*\r\n")
)

// pairs are those of names and values by turns.
func pairs(texts ...string) []api.Pair {
	var out []api.Pair
	for i := 0; i < len(texts); i += 2 {
		out = append(out, api.Pair{Name: texts[i], Value: texts[i+1]})
	}
	return out
}

// texts hands on all texts of at most so many of the pieces.
func texts(pieces []string, most int, take func(s string)) {
	take("")
	if most == 0 {
		return
	}
	for _, piece := range pieces {
		texts(pieces, most-1, func(s string) { take(piece + s) })
	}
}

// random is a text of at most so many of the pieces.
func random(from *rand.Rand, pieces []string, most int) string {
	var out strings.Builder
	for range from.Intn(most + 1) {
		out.WriteString(pieces[from.Intn(len(pieces))])
	}
	return out.String()
}

// noise is a text of so many bytes, none of which is a line's end.
func noise(length int) string {
	return strings.Repeat("x", length)
}

// sized is a post whose body is told by its length, however many bytes follow.
func sized(length any, body string) string {
	return fmt.Sprint(post, "Content-Length: ", length, "\r\n\r\n", body)
}

// same tells whether two requests are alike, nil lists being empty ones.
func same(a, b api.Request) bool {
	return a.Head.Method == b.Head.Method && a.Head.Target == b.Head.Target && a.Head.Minor == b.Head.Minor && slices.Equal(a.Head.Fields, b.Head.Fields) &&
		a.Path == b.Path && slices.Equal(a.Query, b.Query) && a.Body == b.Body && a.Close == b.Close
}

// ended is what the document says of the end of a line at a text's beginning:
// it is there, or it may come.
func ended(s string) (there, may bool) {
	return strings.HasPrefix(s, "\r\n"), s == "" || s == "\r"
}

// chunked is what the document says of Chunks, told by patterns.
func chunked(s string, at int) (string, int, bool, int) {
	if at < 0 || at > len(s) {
		return "", 0, false, 400
	}
	body, rest := "", s[at:]
	for {
		found := wholeLine.FindStringSubmatch(rest)
		if found == nil || len(found[0]) > 1024+2 {
			if partLine.MatchString(rest) && len(strings.TrimSuffix(rest, "\r")) <= 1024 {
				return "", 0, true, 0
			}
			return "", 0, false, 400
		}
		size, _ := strconv.ParseUint(found[1], 16, 64)
		if size+uint64(len(body)) > 16384 {
			return "", 0, false, 413
		}
		rest = rest[len(found[0]):]
		if uint64(len(rest)) < size {
			return "", 0, true, 0
		}
		body, rest = body+rest[:size], rest[size:]
		there, may := ended(rest)
		switch {
		case may:
			return "", 0, true, 0
		case !there:
			return "", 0, false, 400
		case size == 0:
			return body, len(s) - len(rest) + 2, false, 0
		}
		rest = rest[2:]
	}
}

// model is a parser as the document says it, by no code of the package.
type model struct {
	waiting string
	status  int
}

func (m *model) feed(s string) api.Errno {
	if m.status != 0 {
		return 80
	}
	if len(m.waiting)+len(s) > 65536 {
		return 2
	}
	m.waiting += s
	return 0
}

func (m *model) next() (api.Request, bool, int) {
	if m.status == 0 {
		r, size, status := m.look()
		if size > 0 {
			m.waiting = m.waiting[size:]
			return r, true, 0
		}
		if status != 0 {
			m.waiting, m.status = "", status
		}
	}
	return api.Request{}, false, m.status
}

// look is what the bytes that wait tell: a request and its size, or a status.
func (m *model) look() (api.Request, int, int) {
	ahead, behind, whole := strings.Cut(m.waiting, "\r\n\r\n")
	if !whole && len(m.waiting) > 4096 {
		return api.Request{}, 0, 431
	}
	if !whole {
		return api.Request{}, 0, 0
	}
	h, status, _ := head.Parse(ahead + "\r\n\r\n")
	if status != 0 {
		return api.Request{}, 0, status
	}
	kind, n, status := head.Body(h)
	if status != 0 {
		return api.Request{}, 0, status
	}
	r := api.Request{Head: h, Close: head.Closes(h)}
	r.Path, r.Query, _, _ = uri.Target(h.Target)
	if kind == api.BodyChunked {
		body, end, more, status := chunked(behind, 0)
		if status != 0 || more {
			return api.Request{}, 0, status
		}
		r.Body = body
		return r, len(ahead) + 4 + end, 0
	}
	if len(behind) < n {
		return api.Request{}, 0, 0
	}
	r.Body = behind[:n]
	return r, len(ahead) + 4 + n, 0
}

// allOf is what the document says of All: byte by byte.
func allOf(s string) ([]api.Request, int) {
	var m model
	var out []api.Request
	for i := range len(s) {
		switch m.feed(s[i : i+1]) {
		case 2:
			return out, 413
		case 80:
			return out, m.status
		}
		for r, ok, _ := m.next(); ok; r, ok, _ = m.next() {
			out = append(out, r)
		}
	}
	return out, m.status
}

func wantChunks(t *testing.T, s string, at int, wantBody string, wantEnd int, wantMore bool, wantStatus int) {
	t.Helper()
	if body, end, more, status := parse.Chunks(s, at); body != wantBody || end != wantEnd || more != wantMore || status != wantStatus {
		t.Errorf("Chunks(%.200q, %d): %.200q %d %v %d, not %.200q %d %v %d", s, at, body, end, more, status, wantBody, wantEnd, wantMore, wantStatus)
	}
}

// wantRead holds a body that is whole with its text, wherever it stands.
func wantRead(t *testing.T, s, body string) {
	t.Helper()
	for _, ahead := range []string{"", "3\r\nx", get} {
		for _, behind := range []string{"", "x", "\r\n", abc} {
			wantChunks(t, ahead+s+behind, len(ahead), body, len(ahead+s), false, 0)
		}
	}
}

func wantMore(t *testing.T, s string) {
	t.Helper()
	wantChunks(t, s, 0, "", 0, true, 0)
	wantChunks(t, "0\r\n\r\n"+s, 5, "", 0, true, 0)
}

// wantWrong holds a text against its status, which whatever stands behind it
// does not change; its beginning, without its last byte, must not tell one.
func wantWrong(t *testing.T, s string, status int) {
	t.Helper()
	for _, behind := range []string{"", "x", "\r", "\n", "\r\n", "\r\n\r\n", abc} {
		wantChunks(t, s+behind, 0, "", 0, false, status)
		wantChunks(t, "\r\n"+s+behind, 2, "", 0, false, status)
	}
	wantMore(t, s[:len(s)-1])
}

func holdChunks(t *testing.T, s string, at int) {
	t.Helper()
	body, end, more, status := chunked(s, at)
	wantChunks(t, s, at, body, end, more, status)
}

func wantStands(t *testing.T, p *parse.Parser, left, broken int) {
	t.Helper()
	if p.Left() != left || p.Broken() != broken {
		t.Errorf("Left %d, not %d; Broken %d, not %d", p.Left(), left, p.Broken(), broken)
	}
}

func wantFeed(t *testing.T, p *parse.Parser, s string, want api.Errno) {
	t.Helper()
	left, broken := p.Left(), p.Broken()
	if e := p.Feed(s); e != want {
		t.Errorf("Feed(%.200q): %v, not %v", s, e, want)
	}
	if want == api.OK {
		left += len(s)
	}
	wantStands(t, p, left, broken)
}

// fed is a parser that has taken such parts.
func fed(t *testing.T, parts ...string) *parse.Parser {
	t.Helper()
	p := parse.New()
	if p == nil {
		t.Fatal("New: nil")
	}
	for _, part := range parts {
		wantFeed(t, p, part, api.OK)
	}
	return p
}

// wantTaken holds the next request, which must be there, by the bytes that it takes.
func wantTaken(t *testing.T, p *parse.Parser, want api.Request, size int) {
	t.Helper()
	left := p.Left()
	if r, ok, status := p.Next(); !same(r, want) || !ok || status != 0 {
		t.Errorf("Next: %+v %v %d, not %+v", r, ok, status, want)
	}
	wantStands(t, p, left-size, 0)
}

// wantNothing holds that nothing is told, however often it is asked for.
func wantNothing(t *testing.T, p *parse.Parser) {
	t.Helper()
	left := p.Left()
	for range 3 {
		if r, ok, status := p.Next(); !reflect.DeepEqual(r, api.Request{}) || ok || status != 0 {
			t.Errorf("Next: %+v %v %d, not nothing", r, ok, status)
		}
		wantStands(t, p, left, 0)
	}
}

// wantBreaks holds that the next thing told is a status, and so from then on.
func wantBreaks(t *testing.T, p *parse.Parser, want int) {
	t.Helper()
	for range 3 {
		if r, ok, status := p.Next(); !reflect.DeepEqual(r, api.Request{}) || ok || status != want {
			t.Errorf("Next: %+v %v %d, not %d", r, ok, status, want)
		}
		wantStands(t, p, 0, want)
		wantFeed(t, p, "", api.ErrEnded)
		wantFeed(t, p, get, api.ErrEnded)
		wantFeed(t, p, noise(1<<16+1), api.ErrEnded)
	}
}

func wantAll(t *testing.T, s string, want []api.Request, wantStatus int) {
	t.Helper()
	if l, status := parse.All(s); !slices.EqualFunc(l, want, same) || status != wantStatus {
		t.Errorf("All(%.300q): %+v %d, not %+v %d", s, l, status, want, wantStatus)
	}
}

func holdAll(t *testing.T, s string) {
	t.Helper()
	want, status := allOf(s)
	wantAll(t, s, want, status)
}

// getRequest is what get tells.
func getRequest() api.Request {
	return api.Request{
		Head: api.Head{Method: "GET", Target: "/x?a=b", Minor: 1, Fields: pairs("host", "a")},
		Path: "/x", Query: pairs("a", "b"),
	}
}

// postRequest is what a post with such a field and body tells.
func postRequest(name, value, body string) api.Request {
	return api.Request{
		Head: api.Head{Method: "POST", Target: "/y", Minor: 1, Fields: pairs("host", "a", name, value)},
		Path: "/y", Body: body,
	}
}

func chunkedRequest(body string) api.Request {
	return postRequest("transfer-encoding", "chunked", body)
}

func TestExamples(t *testing.T) {
	wantAll(t, get+get, []api.Request{getRequest(), getRequest()}, 0)
	wantChunks(t, "3\r\nabc\r\n0\r\n\r\n", 0, "abc", 13, false, 0)
	wantChunks(t, "3\r\nab", 0, "", 0, true, 0)
	wantChunks(t, "3\r\nabcd", 0, "", 0, false, 400)
	wantChunks(t, "ffff\r\n", 0, "", 0, false, 413)
}

func TestNumbers(t *testing.T) {
	if api.ErrArg != 1 || api.ErrFull != 2 || api.ErrEnded != 80 || api.MaxLine != 1024 || api.MaxHead != 4096 || api.MaxBody != 16384 || api.MaxFeed != 65536 {
		t.Error("errors or limits")
	}
}

// Pa1: places outside a text are refused ahead of all else.
func TestChunksPlaces(t *testing.T) {
	for _, s := range []string{"", "0", abc, "x", "ffff\r\n"} {
		for _, at := range []int{-1, -2, math.MinInt, len(s) + 1, len(s) + 2, math.MaxInt} {
			wantChunks(t, s, at, "", 0, false, 400)
		}
		wantChunks(t, s, len(s), "", 0, true, 0)
	}
	for at := range len(abc) + 1 {
		holdChunks(t, abc, at)
	}
	wantChunks(t, abc, 8, "", 13, false, 0)
	wantChunks(t, abc, 11, "", 0, false, 400)
	wantChunks(t, abc, 3, "", 0, true, 0)
	wantChunks(t, abc, 1, "", 0, false, 400)
	// What lies behind a text's end in memory is not read.
	for end := range len(abc) {
		wantChunks(t, abc[:end], 0, "", 0, true, 0)
	}
}

// Pa1: 1 to 8 digits, in large and small letters, noughts ahead or not.
func TestChunksSizes(t *testing.T) {
	for _, size := range []string{"a", "A", "0a", "0A", "000a", "0000000a", "0000000A"} {
		wantRead(t, size+"\r\n0123456789\r\n0\r\n\r\n", "0123456789")
		wantWrong(t, size+"\r\n0123456789a", 400)
	}
	for _, size := range []string{"ab", "AB", "aB", "Ab", "00Ab", "000000aB"} {
		wantRead(t, size+"\r\n"+noise(0xab)+"\r\n0\r\n\r\n", noise(0xab))
	}
	for _, size := range []string{"1c9f", "1C9F", "1c9F", "00001C9f"} {
		wantRead(t, size+"\r\n"+noise(0x1c9f)+"\r\n0\r\n\r\n", noise(0x1c9f))
	}
	for _, end := range []string{"0", "00", "000", "0000000", "00000000"} {
		wantRead(t, end+"\r\n\r\n", "")
		wantRead(t, "1\r\nx\r\n"+end+"\r\n\r\n", "x")
		wantRead(t, "1\r\nx\r\n"+end+";y\r\n\r\n", "x")
	}
	for _, none := range []string{"\r", ";", "000000000", "00000000a", "123456789", "fffffffff", "-", "+", " ", "\t", "0x", "0X", "1 ", "1\t", "1.", "1g", "1G", "1,", "\n", "1\n", "1:", "1/", "1@", "1`"} {
		wantWrong(t, none, 400)
		wantWrong(t, "1\r\nx\r\n"+none, 400)
	}
	// Eight digits whose number a narrow word would not hold.
	for _, size := range []string{"ffffffff", "80000000", "7fffffff", "FFFFFFFE", "00010000", "4001", "00004001", "10000001"} {
		wantWrong(t, size+"\r\n", 413)
		wantWrong(t, "1\r\nx\r\n"+size+";\r\n", 413)
	}
}

// Pa1: of all bytes just the digits, each with its number.
func TestChunksAllDigits(t *testing.T) {
	const small, large = "0123456789abcdef", "0123456789ABCDEF"
	for b := range 256 {
		s := string([]byte{byte(b)})
		n := max(strings.Index(small, s), strings.Index(large, s))
		switch {
		case n < 0:
			wantWrong(t, s, 400)
		case n == 0:
			wantRead(t, s+"\r\n\r\n", "")
		default:
			wantRead(t, s+"\r\n"+noise(n)+"\r\n0\r\n\r\n", noise(n))
			wantRead(t, "00"+s+"0\r\n"+noise(16*n)+"\r\n0\r\n\r\n", noise(16*n))
		}
		if n < 0 && s != "\r" && s != ";" {
			wantWrong(t, "1"+s, 400)
			wantWrong(t, "0000001"+s, 400)
			wantWrong(t, "00000001"+s, 400)
		}
	}
}

// Pa1: a ; with and without bytes behind it; all bytes behind it.
func TestChunksRemarks(t *testing.T) {
	for _, remark := range []string{";", ";;", "; ", ";\t", ";a", ";a=b", "; a = \"b\" ", ";0", ";3", ";;;x\t;", ";!~"} {
		wantRead(t, "3"+remark+"\r\nabc\r\n0\r\n\r\n", "abc")
		wantRead(t, "3\r\nabc\r\n0"+remark+"\r\n\r\n", "abc")
		wantRead(t, "00000003"+remark+"\r\nabc\r\n00000000"+remark+"\r\n\r\n", "abc")
		wantWrong(t, "4001"+remark+"\r\n", 413)
	}
	wantWrong(t, ";", 400)
	wantWrong(t, "3 ", 400)
	right := 0
	for b := range 256 {
		s := string([]byte{byte(b)})
		if b >= 32 && b <= 126 || b == 9 {
			right++
			wantRead(t, "1;"+s+"\r\nx\r\n0;"+s+s+"\r\n\r\n", "x")
			continue
		}
		if s != "\r" {
			wantWrong(t, "1;"+s, 400)
			wantWrong(t, "1;a"+s, 400)
			wantWrong(t, "1\r\nx\r\n0; "+s, 400)
		}
	}
	if right != 96 {
		t.Error(right, "bytes may stand behind a ;")
	}
}

// Pa1: a line of a size has at most MaxLine bytes; one byte more is wrong as
// soon as it is there, if it is not the line's end.
func TestChunksLongLines(t *testing.T) {
	for _, ahead := range []string{"", "2\r\nxy\r\n", "2;" + noise(1022) + "\r\nxy\r\n"} {
		body := strings.Repeat("xy", min(1, len(ahead)))
		for _, length := range []int{10, 1000, 1022, 1023, 1024} {
			first := ahead + "3;" + noise(length-2)
			wantMore(t, first)
			wantMore(t, first+"\r")
			wantMore(t, first+"\r\n")
			wantRead(t, first+"\r\nabc\r\n0\r\n\r\n", body+"abc")
			last := ahead + "0000;" + noise(length-5)
			wantMore(t, last)
			wantMore(t, last+"\r")
			wantMore(t, last+"\r\n")
			wantRead(t, last+"\r\n\r\n", body)
			wantWrong(t, first+"\r\r", 400)
			wantWrong(t, first+"\rx", 400)
			wantWrong(t, first+"\n", 400)
			wantWrong(t, first+"\x00", 400)
			wantWrong(t, ahead+"ffff;"+noise(length-5)+"\r\n", 413)
		}
		for _, line := range []string{"3;" + noise(1023), "0;" + noise(1023), "ffff;" + noise(1020), "ffffffff;" + strings.Repeat(" ", 1016)} {
			wantWrong(t, ahead+line, 400)
			wantWrong(t, ahead+line[:1024]+"\n", 400)
			wantWrong(t, ahead+line[:1024]+"\xff", 400)
			for _, behind := range []string{"\r\n", "\r\nabc\r\n0\r\n\r\n", "x", noise(5000), noise(5000) + "\r\n"} {
				wantChunks(t, ahead+line+behind, len(ahead), "", 0, false, 400)
			}
		}
	}
	// A line that is too long and wrong otherwise too is 400 all the same.
	for _, line := range []string{noise(1025), ";" + noise(1025), "3 ;" + noise(1025), "3;\x00" + noise(1025), strings.Repeat("0", 1025), strings.Repeat("f", 1025)} {
		wantChunks(t, line, 0, "", 0, false, 400)
		wantChunks(t, line+"\r\n", 0, "", 0, false, 400)
	}
}

// Pa1: a CR without its LF, an LF without its CR, at each of the four ends.
func TestChunksLineEnds(t *testing.T) {
	for _, ahead := range []string{"3", "3;x", "3\r\nabc", "3\r\nabc\r\n0", "3\r\nabc\r\n0;x", "3\r\nabc\r\n0\r\n"} {
		wantMore(t, ahead)
		wantMore(t, ahead+"\r")
		wantWrong(t, ahead+"\n", 400)
		for b := range 256 {
			if b != '\n' {
				wantWrong(t, ahead+"\r"+string([]byte{byte(b)}), 400)
			}
		}
	}
	for b := range 256 {
		if b != '\r' {
			s := string([]byte{byte(b)})
			wantWrong(t, "3\r\nabc"+s, 400)
			wantWrong(t, "0\r\n"+s, 400)
			wantWrong(t, "3\r\nabc\r\n000;\r\n"+s, 400)
		}
	}
}

// Pa1: too few and too many bytes of a chunk; bytes that look like its ends.
func TestChunksBytes(t *testing.T) {
	all := make([]byte, 256)
	for i := range all {
		all[i] = byte(i)
	}
	for _, body := range []string{"x", "\r", "\n", "\r\n", "\r\n\r\n", "0\r\n\r\n", "\r\n0\r\n\r\n", "3\r\nabc\r\n", "\x00", "\xff\xfe", string(all)} {
		size := strconv.FormatInt(int64(len(body)), 16)
		wantRead(t, size+"\r\n"+body+"\r\n0\r\n\r\n", body)
		wantRead(t, size+"\r\n"+body+"\r\n"+size+";\r\n"+body+"\r\n0\r\n\r\n", body+body)
		for end := range len(body) {
			wantMore(t, size+"\r\n"+body[:end])
		}
		wantWrong(t, size+"\r\n"+body+"x", 400)
	}
	wantWrong(t, "4\r\nabc\r\n", 400)
	wantWrong(t, "5\r\nabc\r\n0", 400)
	wantMore(t, "6\r\nabc\r\n0")
	wantWrong(t, "2\r\nabc", 400)
	wantWrong(t, "1\r\nab", 400)
}

// Pa1: MaxBody bytes and one more, by one chunk and by many; told when the line
// is whole, and no sooner.
func TestChunksLimit(t *testing.T) {
	chunk := func(size int) string { return fmt.Sprintf("%x\r\n%s\r\n", size, noise(size)) }
	for _, sizes := range [][]int{{16384}, {1, 16383}, {16383, 1}, {8192, 8192}, {16000, 300, 80, 4}, slices.Repeat([]int{1}, 16384), slices.Repeat([]int{128}, 128)} {
		var ahead strings.Builder
		for _, size := range sizes {
			ahead.WriteString(chunk(size))
		}
		wantRead(t, ahead.String()+"0\r\n\r\n", noise(16384))
		wantMore(t, ahead.String()+"ffffffff")
		wantMore(t, ahead.String()+"1;x\r")
		for _, size := range []string{"1", "00000001", "2", "4000", "ffffffff", "fffff", "1;x"} {
			wantWrong(t, ahead.String()+size+"\r\n", 413)
		}
	}
	for _, room := range []int{1, 2, 15, 16, 255, 256, 4096, 16383} {
		ahead := chunk(16384 - room)
		wantMore(t, fmt.Sprintf("%s%x\r\n", ahead, room))
		wantRead(t, ahead+chunk(room)+"0\r\n\r\n", noise(16384))
		wantWrong(t, fmt.Sprintf("%s%X\r\n", ahead, room+1), 413)
		wantWrong(t, fmt.Sprintf("%s%08x;\t\r\n", ahead, room+1), 413)
	}
	wantMore(t, "4000\r\n")
	wantWrong(t, "4001\r\n", 413)
}

// Pa1: behind the last chunk stand no bytes and no fields; behind the end
// anything may.
func TestChunksEnd(t *testing.T) {
	for _, end := range []string{"0", "000", "0;x", "00000000;"} {
		for _, field := range []string{"x: y\r\n\r\n", "X", "0\r\n\r\n", " \r\n", "\n"} {
			wantWrong(t, end+"\r\n"+field[:1], 400)
			wantChunks(t, end+"\r\n"+field, 0, "", 0, false, 400)
			wantChunks(t, "1\r\nx\r\n"+end+"\r\n"+field, 0, "", 0, false, 400)
		}
		for _, behind := range []string{"x", "\r\n", "\x00", get, abc, "ffff\r\n", noise(100000)} {
			wantChunks(t, end+"\r\n\r\n"+behind, 0, "", len(end)+4, false, 0)
			wantChunks(t, "1\r\nx\r\n"+end+"\r\n\r\n"+behind, 0, "x", len(end)+10, false, 0)
		}
	}
}

// Pa1: each beginning of a whole body wants more; a wrong byte is told as soon
// as it is there, whatever follows.
func TestChunksBeginnings(t *testing.T) {
	for _, whole := range []string{abc, "0\r\n\r\n", "0;x\r\n\r\n", "00000002; a\t\r\n\r\n\r\nA;\r\n0123456789\r\n1\r\n0\r\n000;z\r\n\r\n", "1;" + noise(1022) + "\r\nx\r\n0;" + noise(1022) + "\r\n\r\n"} {
		body, end, _, _ := chunked(whole, 0)
		wantRead(t, whole, body)
		if end != len(whole) {
			t.Fatal(whole, end)
		}
		for at := range len(whole) {
			wantMore(t, whole[:at])
			// Within a long line one byte stands as the next one does.
			if at > 10 && at+10 < len(whole) && whole[at-10:at+10] == noise(20) {
				continue
			}
			for b := range 256 {
				s := whole[:at] + string([]byte{byte(b)})
				holdChunks(t, s, 0)
				if _, _, _, status := parse.Chunks(s, 0); status != 0 {
					wantWrong(t, s, status)
				}
				if len(whole) < 100 {
					holdChunks(t, s+whole[at+1:], 0)
				}
			}
		}
	}
}

// Pa1 against the document's rules told by patterns, for all short texts.
func TestChunksAgainstRules(t *testing.T) {
	texts([]string{"0", "2", "F", ";", "\r", "\n", " ", "g"}, 6, func(s string) { holdChunks(t, s, 0) })
	texts([]string{"0", "2", ";", "\r\n", "xy"}, 8, func(s string) { holdChunks(t, s, 0) })
	from := rand.New(rand.NewSource(1))
	pieces := []string{"1\r\nx\r\n", "3;\t\r\nabc\r\n", "0\r\n\r\n", "0;x\r\n\r\n", "00\r\n", "\r\n", "\r", ";", "2\r\n", "ab", "a\r\n", "0123456789", "\x00", "1000\r\n" + noise(4096) + "\r\n", "1;" + noise(1021), "y"}
	for range 20000 {
		s := random(from, pieces, 12)
		holdChunks(t, s, 0)
		holdChunks(t, s, from.Intn(len(s)+3)-1)
	}
	const bytes = "0123456789abcdefABCDEF;;;\r\r\r\r\n\n\n\n \txg"
	for range 20000 {
		raw := make([]byte, from.Intn(40))
		for i := range raw {
			raw[i] = bytes[from.Intn(len(bytes))]
		}
		holdChunks(t, string(raw), 0)
	}
}

// R2: of several faults the one that comes first in the text counts.
func TestChunksFirstFault(t *testing.T) {
	for _, wrong := range []struct {
		s      string
		status int
	}{
		{"ffff\r\nx\r\n", 413}, {"ffff\rx", 400}, {"ffff;\x00\r\n", 400}, {"ffff \r\n", 400}, {"fffffffff\r\n", 400}, {"1\r\nxy\r\nffff\r\n", 400}, {"1\r\nx\r\nffff\r\n0\r\n\r\n", 413},
		{"4001\r\n" + noise(16385) + "\r\n0\r\n\r\n", 413}, {"4000\r\n" + noise(16385), 400}, {"ffff;" + noise(1020) + "\r\n", 400}, {"ffff;" + noise(1019) + "\r\n", 413}, {"x\r\nffff\r\n", 400},
	} {
		wantChunks(t, wrong.s, 0, "", 0, false, wrong.status)
		wantChunks(t, wrong.s, -1, "", 0, false, 400)
		wantChunks(t, wrong.s, len(wrong.s)+1, "", 0, false, 400)
	}
}

// R1: parsers that New and Copy did not give.
func TestParsersOfNobody(t *testing.T) {
	whole := fed(t, get)
	assigned := *whole
	broken := fed(t, "\r\n\r\n")
	wantBreaks(t, broken, 400)
	assignedBroken := *broken
	for name, p := range map[string]*parse.Parser{"nil": nil, "zero": {}, "new": new(parse.Parser), "assigned": &assigned, "assigned, broken": &assignedBroken} {
		for _, s := range []string{"", get, "\r\n\r\n", noise(1<<16 + 1)} {
			if e := p.Feed(s); e != api.ErrArg {
				t.Error(name, "Feed:", e)
			}
			if r, ok, status := p.Next(); !reflect.DeepEqual(r, api.Request{}) || ok || status != 0 {
				t.Error(name, "Next:", r, ok, status)
			}
			if p.Left() != 0 || p.Broken() != 0 || p.Copy() != nil {
				t.Error(name, p.Left(), p.Broken(), p.Copy())
			}
		}
	}
	wantTaken(t, whole, getRequest(), len(get))
}

// Pa2: what waits, up to MaxFeed bytes.
func TestFeedRoom(t *testing.T) {
	p := fed(t)
	wantStands(t, p, 0, 0)
	wantFeed(t, p, "", api.OK)
	wantFeed(t, p, noise(65537), api.ErrFull)
	wantFeed(t, p, noise(1<<20), api.ErrFull)
	wantFeed(t, p, noise(65535), api.OK)
	wantFeed(t, p, "ab", api.ErrFull)
	wantFeed(t, p, "", api.OK)
	wantFeed(t, p, "a", api.OK)
	wantFeed(t, p, "", api.OK)
	wantFeed(t, p, "a", api.ErrFull)
	wantFeed(t, p, noise(65536), api.ErrFull)
	wantFeed(t, fed(t, noise(65536)), "x", api.ErrFull)
	wantBreaks(t, p, 431)

	// Behind a request that was taken there is room for as many bytes more.
	p = fed(t, get, get, noise(65536-2*len(get)))
	wantFeed(t, p, "x", api.ErrFull)
	wantTaken(t, p, getRequest(), len(get))
	wantFeed(t, p, noise(len(get)+1), api.ErrFull)
	wantFeed(t, p, noise(len(get)), api.OK)
	wantFeed(t, p, "x", api.ErrFull)
	wantTaken(t, p, getRequest(), len(get))
	wantFeed(t, p, noise(len(get)), api.OK)
	wantBreaks(t, p, 431)
}

// R2: a Feed that is refused leaves what waits as it was.
func TestFeedRefused(t *testing.T) {
	p := fed(t, get[:10])
	wantFeed(t, p, noise(1<<16), api.ErrFull)
	wantNothing(t, p)
	wantFeed(t, p, get[10:], api.OK)
	wantTaken(t, p, getRequest(), len(get))
	wantNothing(t, p)
}

// Pa2: bytes wait in the order in which they came, without more between.
func TestFeedOrder(t *testing.T) {
	p := fed(t, "POST /y HT", "", "TP/1.1\r", "\nHost: a\r\nContent-Length: 1", "0\r\n\r", "\n01234", "56789")
	wantTaken(t, p, postRequest("content-length", "10", "0123456789"), p.Left())
	wantNothing(t, p)
}

// Pa2: without CR LF CR LF there is nothing, up to MaxHead bytes.
func TestNextWithoutHead(t *testing.T) {
	wantNothing(t, fed(t))
	for _, s := range []string{"x", "\r\n", "\r\n\r", "\n\n", "\r\r", "\n\r\n\r", get[:len(get)-1], get[:len(get)-2], "GET / HTTP/9.9\r\n", "\x00", "get\r\n", noise(1025) + "\r\n", noise(1025)} {
		wantNothing(t, fed(t, s))
	}
	for _, unit := range []string{"x", "\r", "\n", "\r\nx", "\r\n\n", "a: b\r\n"} {
		s := strings.Repeat(unit, 5000)
		for _, length := range []int{4095, 4096} {
			wantNothing(t, fed(t, s[:length]))
		}
		for _, length := range []int{4097, 4098, 5000} {
			wantBreaks(t, fed(t, s[:length]), 431)
		}
		p := fed(t, s[:4096])
		wantNothing(t, p)
		wantFeed(t, p, "x", api.OK)
		wantBreaks(t, p, 431)
		p = fed(t, get, s[:4097])
		wantTaken(t, p, getRequest(), len(get))
		wantBreaks(t, p, 431)
	}
}

// filled is a text of a head that has so many bytes, its lines none too long.
func filled(t *testing.T, length int) string {
	t.Helper()
	s := "GET / HTTP/1.1\r\nHost: a\r\n"
	for len(s) < length-2 {
		n := min(1000, length-2-len(s))
		if left := length - 2 - len(s) - n; left > 0 && left < 10 {
			n -= 10
		}
		s += "x:" + noise(n-4) + "\r\n"
	}
	s += "\r\n"
	if len(s) != length {
		t.Fatal(len(s), length)
	}
	return s
}

// Pa2: a head of MaxHead bytes is read, one of more is not, however it comes.
func TestNextGreatHeads(t *testing.T) {
	for _, length := range []int{4000, 4094, 4095, 4096} {
		s := filled(t, length)
		h, status, _ := head.Parse(s)
		if status != 0 {
			t.Fatal(length, status)
		}
		want := api.Request{Head: h, Path: "/"}
		wantTaken(t, fed(t, s), want, length)
		wantTaken(t, fed(t, s+get), want, length)
		p := fed(t, s[:length-1])
		wantNothing(t, p)
		wantFeed(t, p, s[length-1:], api.OK)
		wantTaken(t, p, want, length)
		wantAll(t, s+s, []api.Request{want, want}, 0)
	}
	for _, length := range []int{4097, 4098, 4100, 4101, 5000, 65536} {
		s := filled(t, length)
		wantBreaks(t, fed(t, s), 431)
		wantBreaks(t, fed(t, s[:4096], s[4096:]), 431)
		wantBreaks(t, fed(t, s[:4096], s[4096:4097]), 431)
		wantAll(t, s, nil, 431)
	}
}

// Pa2: what layer 7 refuses of a head, then of its body, for each status.
func TestNextStatuses(t *testing.T) {
	for _, wrong := range []struct {
		s      string
		status int
	}{
		{"\r\n\r\n", 400}, {"\r\n\r\n" + get, 400}, {"\r\n" + get, 400}, {"x\r\n\r\n", 400}, {"get / HTTP/1.1\r\nHost: a\r\n\r\n", 400}, {"GET x HTTP/1.1\r\nHost: a\r\n\r\n", 400},
		{"GET /%zz HTTP/1.1\r\nHost: a\r\n\r\n", 400}, {"GET / HTTP/1.1\r\n\r\n", 400}, {"GET / HTTP/1.1\r\nHost: a\r\nHost: a\r\n\r\n", 400}, {"GET / HTTP/1.1\r\nHost : a\r\n\r\n", 400}, {"GET / HTTP/1.1\nHost: a\r\n\r\n", 400},
		{"GET  / HTTP/1.1\r\nHost: a\r\n\r\n", 400}, {"GET / HTTP/1.1\r\nHost: a\r\n b\r\n\r\n", 400},
		{"GET /" + noise(1024) + " HTTP/1.1\r\nHost: a\r\n\r\n", 431}, {"GET / HTTP/1.1\r\nHost: a\r\n" + strings.Repeat("x: y\r\n", 32) + "\r\n", 431},
		{"GET / HTTP/2.0\r\nHost: a\r\n\r\n", 505}, {"GET / HTTP/1.2\r\n\r\n", 505},
		{sized("x", "x"), 400}, {sized("-1", "x"), 400}, {sized("", ""), 400}, {sized("1, 1", "x"), 400}, {sized("1\r\nContent-Length: 01", "x"), 400},
		{sized(16385, ""), 413}, {sized(999999999, ""), 413}, {sized(1000000000, ""), 400},
		{sized("3\r\nTransfer-Encoding: chunked", abc), 400}, {post + "Transfer-Encoding: gzip\r\n\r\n", 400}, {post + "Transfer-Encoding: chunked\r\nTransfer-Encoding: chunked\r\n\r\n" + abc, 400},
		{"POST / HTTP/1.0\r\nTransfer-Encoding: chunked\r\n\r\n" + abc, 400}, {codes + "x", 400}, {codes + "3\r\nabcd", 400}, {codes + "ffff\r\n", 413}, {codes + "0\r\nx: y\r\n\r\n", 400},
		{codes + "1;" + noise(1023), 400}, {codes + "\r\n", 400},
	} {
		for _, behind := range []string{"", "x", get, noise(10000)} {
			wantBreaks(t, fed(t, wrong.s+behind), wrong.status)
			p := fed(t, get+get+wrong.s+behind)
			wantTaken(t, p, getRequest(), len(get))
			wantTaken(t, p, getRequest(), len(get))
			wantBreaks(t, p, wrong.status)
			wantAll(t, get+wrong.s+behind, []api.Request{getRequest()}, wrong.status)
		}
	}
}

// R2: what is refused of the head counts ahead of what is refused of its body,
// and that ahead of the body itself.
func TestNextFirstFault(t *testing.T) {
	for _, wrong := range []struct {
		s      string
		status int
	}{
		{"POST / HTTP/2.0\r\nContent-Length: x\r\n\r\n", 505}, {"POST / HTTP/1.1\r\nContent-Length: 99999\r\n\r\n", 400}, {"POST / HTTP/1.1\r\nHost: a\r\nContent-Length: 99999\r\nx\r\n\r\n", 400},
		{post + "X:" + noise(1023) + "\r\nContent-Length: 99999\r\n\r\n", 431}, {sized("99999\r\nTransfer-Encoding: chunked", "x"), 400}, {sized("99999\r\nContent-Length: 99998", ""), 400},
		{post + "Transfer-Encoding: x\r\n\r\nffff\r\n", 400}, {"POST /  HTTP/2.0\r\nHost: a\r\n\r\n", 400}, {filled(t, 4097) + "x", 431}, {strings.Repeat("\x00", 5000) + "\r\n\r\n", 431},
	} {
		wantBreaks(t, fed(t, wrong.s), wrong.status)
		wantAll(t, wrong.s, nil, wrong.status)
	}
}

// Pa2: a body by its length: none, one byte less, all of it, more behind it.
func TestNextLengths(t *testing.T) {
	for _, length := range []int{0, 1, 2, 10, 1000, 16383, 16384} {
		body := strings.Repeat("\r\n\r\n0\x00\xff", length)[:length]
		s := sized(length, body)
		want := postRequest("content-length", strconv.Itoa(length), body)
		wantTaken(t, fed(t, s), want, len(s))
		if length > 0 {
			p := fed(t, sized(length, ""))
			wantNothing(t, p)
			wantFeed(t, p, body[:length-1], api.OK)
			wantNothing(t, p)
			wantFeed(t, p, body[length-1:], api.OK)
			wantTaken(t, p, want, len(s))
			wantNothing(t, p)
		}
		p := fed(t, s+get+"\r\n")
		wantTaken(t, p, want, len(s))
		wantTaken(t, p, getRequest(), len(get))
		wantNothing(t, p)
		wantStands(t, p, 2, 0)
	}
	wantTaken(t, fed(t, sized("00003", "abcd")), postRequest("content-length", "00003", "abc"), len(sized("00003", "abc")))
	// Without a length nothing behind the head is its body.
	p := fed(t, post+"\r\nabc")
	wantTaken(t, p, api.Request{Head: api.Head{Method: "POST", Target: "/y", Minor: 1, Fields: pairs("host", "a")}, Path: "/y"}, len(post)+2)
	wantStands(t, p, 3, 0)
}

// Pa2: a chunked body, whole and not.
func TestNextChunked(t *testing.T) {
	for _, right := range []struct{ s, body string }{
		{abc, "abc"}, {"0\r\n\r\n", ""}, {"1\r\nx\r\n002;y\r\n\r\n\r\n0;z\r\n\r\n", "x\r\n"}, {"4000\r\n" + noise(16384) + "\r\n0\r\n\r\n", noise(16384)},
	} {
		s := codes + right.s
		want := chunkedRequest(right.body)
		p := fed(t, codes)
		wantNothing(t, p)
		wantFeed(t, p, right.s[:len(right.s)-1], api.OK)
		wantNothing(t, p)
		wantFeed(t, p, right.s[len(right.s)-1:]+get+"G", api.OK)
		wantTaken(t, p, want, len(s))
		wantTaken(t, p, getRequest(), len(get))
		wantNothing(t, p)
		wantStands(t, p, 1, 0)
	}
}

// Pa2: what a request tells: its target taken apart, whether it closes.
func TestNextRequest(t *testing.T) {
	for _, right := range []struct {
		s    string
		want api.Request
	}{
		{"GET /a%20b/%2F?q=1+2&&r HTTP/1.1\r\nHost: h\r\n\r\n", api.Request{Head: api.Head{Method: "GET", Target: "/a%20b/%2F?q=1+2&&r", Minor: 1, Fields: pairs("host", "h")}, Path: "/a b//", Query: pairs("q", "1 2", "r", "")}},
		{"A /? HTTP/1.0\r\n\r\n", api.Request{Head: api.Head{Method: "A", Target: "/?"}, Path: "/", Close: true}},
		{"A / HTTP/1.0\r\nConnection: Keep-Alive\r\n\r\n", api.Request{Head: api.Head{Method: "A", Target: "/", Fields: pairs("connection", "Keep-Alive")}, Path: "/"}},
		{"A / HTTP/1.1\r\nHOST:\t\r\nConnection: x, Close\r\n\r\n", api.Request{Head: api.Head{Method: "A", Target: "/", Minor: 1, Fields: pairs("host", "", "connection", "x, Close")}, Path: "/", Close: true}},
		{"A /%00?%26=%3D HTTP/1.0\r\nContent-Length: 2\r\nX: y\r\n\r\nab", api.Request{Head: api.Head{Method: "A", Target: "/%00?%26=%3D", Fields: pairs("content-length", "2", "x", "y")}, Path: "/\x00", Query: pairs("&", "="), Body: "ab", Close: true}},
		{"POST / HTTP/1.1\r\nHost: h\r\nTransfer-Encoding: CHUNKED\r\nConnection: close\r\n\r\n" + abc, api.Request{Head: api.Head{Method: "POST", Target: "/", Minor: 1, Fields: pairs("host", "h", "transfer-encoding", "CHUNKED", "connection", "close")}, Path: "/", Body: "abc", Close: true}},
	} {
		wantTaken(t, fed(t, right.s), right.want, len(right.s))
		// That one closes is for others to heed: what stands behind it is read.
		wantAll(t, right.s+get+right.s, []api.Request{right.want, getRequest(), right.want}, 0)
	}
}

// Pa2: several requests in one text, taken one by one, and bytes between.
func TestNextSeveral(t *testing.T) {
	p := fed(t, get+codes+abc+sized(2, "xy")+get[:5])
	wantTaken(t, p, getRequest(), len(get))
	wantFeed(t, p, get[5:], api.OK)
	wantTaken(t, p, chunkedRequest("abc"), len(codes+abc))
	wantTaken(t, p, postRequest("content-length", "2", "xy"), len(sized(2, "xy")))
	wantTaken(t, p, getRequest(), len(get))
	wantNothing(t, p)
	wantStands(t, p, 0, 0)
	count := api.MaxFeed / len(get)
	p = fed(t, strings.Repeat(get, count))
	for range count {
		wantTaken(t, p, getRequest(), len(get))
	}
	wantNothing(t, p)
}

// Pa2: what is wrong is told by Next alone, and behind it nothing waits.
func TestBroken(t *testing.T) {
	p := fed(t, "\r\n\r\n", get)
	wantStands(t, p, 4+len(get), 0)
	wantBreaks(t, p, 400)
	wantBreaks(t, p.Copy(), 400)
	p = fed(t, get+noise(4097))
	wantStands(t, p, len(get)+4097, 0)
	wantTaken(t, p, getRequest(), len(get))
	wantStands(t, p, 4097, 0)
	wantBreaks(t, p, 431)
}

// R4: a copy stands as the parser does, and goes its own way.
func TestCopy(t *testing.T) {
	p := fed(t, get+get[:7])
	c := p.Copy()
	if c == nil || c == p {
		t.Fatal("Copy:", c)
	}
	wantStands(t, c, p.Left(), 0)
	wantTaken(t, p, getRequest(), len(get))
	wantStands(t, c, len(get)+7, 0)
	wantFeed(t, c, get[7:]+get, api.OK)
	wantStands(t, p, 7, 0)
	wantTaken(t, c, getRequest(), len(get))
	wantTaken(t, c, getRequest(), len(get))
	wantFeed(t, p, "\r\n\r\n", api.OK)
	wantBreaks(t, p, 400)
	again := p.Copy()
	wantTaken(t, c, getRequest(), len(get))
	wantNothing(t, c)
	wantFeed(t, c, get, api.OK)
	wantTaken(t, c.Copy().Copy(), getRequest(), len(get))
	wantTaken(t, c, getRequest(), len(get))
	wantBreaks(t, again, 400)
	full := fed(t, noise(65536))
	wantFeed(t, full.Copy(), "x", api.ErrFull)
	wantBreaks(t, full.Copy(), 431)
	wantStands(t, full, 65536, 0)
}

// wires are texts that requests and what is wrong are put together of.
func wires() []string {
	return []string{
		get, codes, abc, codes + abc, sized(3, "abc"), sized(0, ""), sized(7, "GET / H"), post, "\r\n", "\r\n\r\n", "A / HTTP/1.0\r\n\r\n", "A / HTTP/1.0\r\nConnection: keep-alive\r\n\r\n", "0\r\n\r\n", "1;y\r\nx\r\n",
		"4000\r\n", noise(3000), "Content-Length: 2\r\n", "GET / HTTP/1.1\r\n", "Host: a\r\n", "x",
	}
}

// rightWires are those that are whole requests.
func rightWires() []string {
	return []string{get, codes + abc, codes + "0\r\n\r\n", sized(3, "abc"), sized(0, ""), sized(9, "\r\n\r\n\r\n\r\nx"), "A / HTTP/1.0\r\n\r\n", post + "\r\n", codes + "000a;\t \r\n0123456789\r\n1\r\n\n\r\n0;\r\n\r\n"}
}

// wrongWires are those that break a parser, each by a status of its own or by
// another fault.
func wrongWires() []string {
	return []string{"\r\n\r\n", "GET / HTTP/3.0\r\n\r\n", sized(16385, ""), codes + "ffff\r\n", codes + "3\r\nabcd", codes + "0\r\nx", "GET / HTTP/1.1\r\n\r\n", codes + "1;" + noise(1023), "GET /" + noise(1100) + " HTTP/1.1\r\n\r\n"}
}

// A parser is held against the document's rules, call by call.
func TestParserAgainstRules(t *testing.T) {
	from := rand.New(rand.NewSource(2))
	for range 1500 {
		p, m := parse.New(), &model{}
		for range 1 + from.Intn(40) {
			switch from.Intn(6) {
			case 0, 1, 2:
				s := random(from, wires(), 3)
				if from.Intn(2) == 0 {
					s = random(from, rightWires(), 2)
				}
				if from.Intn(10) == 0 {
					s = noise(60000 + from.Intn(8000))
				}
				if got, want := p.Feed(s), m.feed(s); got != want {
					t.Fatalf("Feed(%.200q): %v, not %v", s, got, want)
				}
			case 3, 4:
				r, ok, status := p.Next()
				if want, wantOk, wantStatus := m.next(); !same(r, want) || ok != wantOk || status != wantStatus {
					t.Fatalf("Next: %+v %v %d, not %+v %v %d", r, ok, status, want, wantOk, wantStatus)
				}
			case 5:
				other := p.Copy()
				p, other = other, p
				other.Feed("\r\n\r\n")
				other.Next()
			}
			wantStands(t, p, len(m.waiting), m.status)
		}
	}
}

// toldOf is what a parser tells of parts, asked behind each of them.
func toldOf(t *testing.T, parts []string) ([]api.Request, int) {
	t.Helper()
	p := fed(t)
	var out []api.Request
	for _, part := range parts {
		if e := p.Feed(part); e != api.OK && e != api.ErrEnded {
			t.Fatalf("Feed(%.200q): %v", part, e)
		}
		for r, ok, _ := p.Next(); ok; r, ok, _ = p.Next() {
			out = append(out, r)
		}
	}
	return out, p.Broken()
}

func wantTold(t *testing.T, parts []string, want []api.Request, wantStatus int) {
	t.Helper()
	if l, status := toldOf(t, parts); !slices.EqualFunc(l, want, same) || status != wantStatus {
		t.Errorf("%.300q: %+v %d, not %+v %d", parts, l, status, want, wantStatus)
	}
}

// Pa4: cut at each place, at each two of some, into single bytes, not at all.
func TestCuts(t *testing.T) {
	for _, s := range append(wrongWires(), strings.Join(rightWires(), ""), get+codes+abc+"\r\n\r\n", codes+"2\r\nab\r\n", get+codes+"4000;x\r\nabc", sized(4, "\r\n\r\n")+"POST / HTTP/1.1\r\n") {
		want, status := allOf(s)
		wantAll(t, s, want, status)
		wantTold(t, []string{s}, want, status)
		wantTold(t, strings.Split(s, ""), want, status)
		for at := range len(s) + 1 {
			wantTold(t, []string{s[:at], s[at:]}, want, status)
		}
		if len(s) < 200 {
			for at := range len(s) + 1 {
				for behind := at; behind <= len(s); behind++ {
					wantTold(t, []string{s[:at], s[at:behind], s[behind:]}, want, status)
				}
			}
		}
	}
}

// Pa4: cut anyhow.
func TestRandomCuts(t *testing.T) {
	from := rand.New(rand.NewSource(3))
	for range 3000 {
		s := random(from, rightWires(), 4) + random(from, wires(), 3) + random(from, wrongWires(), 1)
		want, status := allOf(s)
		wantAll(t, s, want, status)
		for range 3 {
			var parts []string
			for rest := s; rest != ""; {
				n := min(len(rest), 1+from.Intn(1+from.Intn(len(s))))
				parts, rest = append(parts, rest[:n]), rest[n:]
			}
			wantTold(t, parts, want, status)
		}
	}
}

// Pa4: a request behind others is read as if it stood alone, and so is what is
// wrong.
func TestBehindOthers(t *testing.T) {
	for _, last := range append(append(rightWires(), wrongWires()...), "", "GET", codes+"1\r\n") {
		alone, status := parse.All(last)
		for _, first := range rightWires() {
			for _, second := range append(rightWires(), "") {
				ahead, broken := parse.All(first + second)
				if broken != 0 {
					t.Fatalf("%q: %d", first+second, broken)
				}
				wantAll(t, first+second+last, append(ahead, alone...), status)
			}
		}
	}
}

// Pa3: an empty text, a rest that is not whole, what breaks it behind requests.
func TestAll(t *testing.T) {
	wantAll(t, "", nil, 0)
	wantAll(t, get, []api.Request{getRequest()}, 0)
	for end := range len(get) {
		wantAll(t, get[:end], nil, 0)
		wantAll(t, codes+abc+get[:end], []api.Request{chunkedRequest("abc")}, 0)
	}
	wantAll(t, get+get+codes+"1", []api.Request{getRequest(), getRequest()}, 0)
	wantAll(t, get+"\r\n\r\n"+get, []api.Request{getRequest()}, 400)
	wantAll(t, get+sized(16385, "")+get, []api.Request{getRequest()}, 413)
	wantAll(t, get+"A / HTTP/0.9\r\n\r\n"+get, []api.Request{getRequest()}, 505)
	wantAll(t, get+noise(4096), []api.Request{getRequest()}, 0)
	wantAll(t, get+noise(4097), []api.Request{getRequest()}, 431)
	wantAll(t, noise(4097)+"\r\n\r\n", nil, 431)
	wantAll(t, noise(200000), nil, 431)
}

// Pa3: more requests than could wait at one time are all told.
func TestAllOfMany(t *testing.T) {
	const count = 10000
	if l, status := parse.All(strings.Repeat(get, count)); len(l) != count || status != 0 || !same(l[count-1], getRequest()) {
		t.Error(len(l), status)
	}
	s := strings.Repeat(sized(16384, noise(16384)), 50)
	l, status := parse.All(s + "\r\n\r\n")
	if len(l) != 50 || status != 400 {
		t.Error(len(l), status)
	}
	for i, r := range l {
		if !same(r, postRequest("content-length", "16384", noise(16384))) {
			t.Error(i, r.Head)
		}
	}
}

// wide is a chunked request of so many bytes: its lines of sizes are long. Its
// last byte is the body's end.
func wide(t *testing.T, length int) (s, body string) {
	t.Helper()
	const end = "0\r\n\r\n"
	s = codes
	for len(s)+len(end) < length {
		n := min(1029, length-len(s)-len(end))
		if left := length - len(s) - len(end) - n; left > 0 && left < 10 {
			n -= 10
		}
		s += "1;" + noise(n-7) + "\r\nx\r\n"
		body += "x"
	}
	s += end
	if len(s) != length {
		t.Fatal(len(s), length)
	}
	return s, body
}

// Pa3: a request of MaxFeed bytes is told; of a longer one a byte finds no room,
// whatever it is.
func TestAllRoom(t *testing.T) {
	for _, ahead := range []string{"", get, get + codes + abc} {
		before, _ := parse.All(ahead)
		for _, length := range []int{65000, 65535, 65536} {
			s, body := wide(t, length)
			wantAll(t, ahead+s, append(before[:len(before):len(before)], chunkedRequest(body)), 0)
			wantAll(t, ahead+s+get, append(before[:len(before):len(before)], chunkedRequest(body), getRequest()), 0)
			wantAll(t, ahead+s+"\r\n\r\n", append(before[:len(before):len(before)], chunkedRequest(body)), 400)
			wantAll(t, ahead+s[:length-1], before, 0)
		}
		s, _ := wide(t, 65537)
		wantAll(t, ahead+s[:65536], before, 0)
		for _, last := range []string{"\n", "x", "\x00", "\n" + get, noise(100000)} {
			wantAll(t, ahead+s[:65536]+last, before, 413)
		}
		s, _ = wide(t, 70000)
		wantAll(t, ahead+s, before, 413)
		// What is wrong within the room counts ahead of the byte that finds none.
		for _, wrong := range []struct {
			behind string
			status int
		}{{"\x00", 400}, {"\r\nx\r\n4000\r\n", 413}, {"\r\nx\r\ng", 400}} {
			wantAll(t, ahead+s[:65000]+wrong.behind+noise(10000), before, wrong.status)
		}
	}
}

// Pa3: byte by byte, through a parser that fills up.
func TestAllByteByByte(t *testing.T) {
	for _, length := range []int{65536, 65537} {
		s, body := wide(t, length)
		p := fed(t)
		for i := range len(s) - 1 {
			if e := p.Feed(s[i : i+1]); e != api.OK {
				t.Fatal(i, e)
			}
			// To ask behind each byte would take long, and tell nothing else.
			if i%997 == 0 || i > len(s)-20 {
				wantNothing(t, p)
			}
		}
		if length > 65536 {
			wantFeed(t, p, s[length-1:], api.ErrFull)
			wantNothing(t, p)
			wantAll(t, s, nil, 413)
			continue
		}
		wantFeed(t, p, s[length-1:], api.OK)
		wantTaken(t, p, chunkedRequest(body), length)
		wantAll(t, s, []api.Request{chunkedRequest(body)}, 0)
	}
}

// Pa3 against the document's rules, byte by byte.
func TestAllAgainstRules(t *testing.T) {
	texts([]string{get, codes, abc, "\r\n", sized(2, "xy"), "x"}, 4, func(s string) { holdAll(t, s) })
	from := rand.New(rand.NewSource(4))
	for range 1500 {
		holdAll(t, random(from, wires(), 8))
		holdAll(t, random(from, rightWires(), 6)+random(from, wrongWires(), 2))
	}
}

// isRequest tells whether a text is one by the grammar, with that request's head
// ahead and its body behind.
func isRequest(s string, r api.Request) bool {
	ahead := wholeHead.FindString(s)
	if ahead == "" || !strings.HasPrefix(s, r.Head.Method+" "+r.Head.Target+" HTTP/1.") || strings.ContainsAny(r.Head.Target, " \r\n#") {
		return false
	}
	behind := s[len(ahead):]
	if len(head.Values(r.Head, "transfer-encoding")) == 0 {
		return behind == r.Body
	}
	body, end, _, _ := chunked(behind, 0)
	return body == r.Body && end == len(behind) && end > 0
}

// P7 and Pa4: whatever byte of a request is changed, what comes out as one is of
// the grammar, and what does not is nothing yet or one of four statuses.
func TestWrongRequests(t *testing.T) {
	statuses := map[int]int{}
	hold := func(s string) {
		p := fed(t, s)
		for rest := s; ; {
			r, ok, status := p.Next()
			if !ok {
				statuses[status]++
				wantStands(t, p, p.Left(), status)
				break
			}
			taken := rest[:len(rest)-p.Left()]
			rest = rest[len(taken):]
			if !isRequest(taken, r) {
				t.Errorf("%.300q is told as a request: %+v", taken, r)
			}
			if again, status := parse.All(taken); len(again) != 1 || status != 0 || !same(again[0], r) {
				t.Errorf("%.300q, alone: %+v %d", taken, again, status)
			}
		}
	}
	for _, s := range append(rightWires(), wrongWires()...) {
		for at := range min(len(s), 300) {
			for b := range 256 {
				hold(s[:at] + string([]byte{byte(b)}) + s[at+1:])
			}
			hold(s[:at] + s[at+1:])
			hold(s[:at] + s[at:at+1] + s[at:])
			hold(s[:at] + get + s[at:])
		}
	}
	from := rand.New(rand.NewSource(5))
	for range 3000 {
		raw := make([]byte, from.Intn(6000))
		from.Read(raw)
		hold(string(raw))
		hold(string(raw[:len(raw)/20]) + "\r\n\r\n")
		hold(codes + string(raw))
	}
	for status := range statuses {
		if !slices.Contains([]int{0, 400, 413, 431, 505}, status) {
			t.Error("status", status)
		}
	}
	if len(statuses) != 5 {
		t.Error(statuses)
	}
}

// R5 has another say here: sizes are hexadecimal, noughts may stand ahead, no
// sign may; a length's noughts are layer 7's.
func TestFormsOfNumbers(t *testing.T) {
	wantRead(t, "10\r\n"+noise(16)+"\r\n0\r\n\r\n", noise(16))
	wantRead(t, "00000010\r\n"+noise(16)+"\r\n00\r\n\r\n", noise(16))
	for _, sign := range []string{"-", "+", " ", "_", "#", "$"} {
		wantWrong(t, sign, 400)
	}
	wantWrong(t, "1_", 400)
	wantWrong(t, "0x", 400)
	wantBreaks(t, fed(t, sized("+3", "abc")), 400)
	wantBreaks(t, fed(t, sized("0x3", "abc")), 400)
}

// overlaps tells whether two texts share memory.
func overlaps(a, b string) bool {
	// A text of one byte may lie in a table of the language.
	if len(a) < 2 || len(b) < 2 {
		return false
	}
	p, q := uintptr(unsafe.Pointer(unsafe.StringData(a))), uintptr(unsafe.Pointer(unsafe.StringData(b)))
	return p < q+uintptr(len(b)) && q < p+uintptr(len(a))
}

// textsOf are all texts of a request.
func textsOf(r api.Request) []string {
	out := []string{r.Head.Method, r.Head.Target, r.Path, r.Body}
	for _, f := range append(slices.Clone(r.Head.Fields), r.Query...) {
		out = append(out, f.Name, f.Value)
	}
	return out
}

// R3: what is handed in is not kept, not even as the only text that waits; what
// is answered is new. The memory of the text is changed by hand to tell.
func TestMemory(t *testing.T) {
	const wire = "POST /path?name=value HTTP/1.1\r\nHost: there\r\nContent-Length: 4\r\n\r\nbody" + codes + "4\r\nabcd\r\n0\r\n\r\n"
	want, status := parse.All(wire)
	if len(want) != 2 || status != 0 {
		t.Fatal(want, status)
	}
	own := []byte(wire)
	handed := unsafe.String(unsafe.SliceData(own), len(own))
	p := fed(t, handed)
	c := p.Copy()
	later := fed(t, "", handed[:50], handed[50:])
	all, _ := parse.All(handed)
	body, _, _, _ := parse.Chunks(handed, strings.Index(handed, "4\r\nabcd"))
	for i := range own {
		own[i] = '?'
	}
	for _, held := range []*parse.Parser{p, c, later} {
		for _, r := range want {
			if got, ok, status := held.Next(); !same(got, r) || !ok || status != 0 {
				t.Errorf("%+v %v %d, not %+v", got, ok, status, r)
			}
		}
	}
	if !slices.EqualFunc(all, want, same) || body != "abcd" {
		t.Error(all, body)
	}
	for _, r := range all {
		for _, text := range textsOf(r) {
			if overlaps(text, handed) {
				t.Errorf("%q lies in what was handed in", text)
			}
		}
	}
}

// R3: lists of answers share nothing, their spare room too.
func TestListsApart(t *testing.T) {
	wire := "GET /?a=b&c=d&e=f HTTP/1.1\r\nHost: a\r\nX: y\r\nZ: z\r\n\r\n"
	want, _ := parse.All(wire + wire)
	p := fed(t, wire+wire)
	c := p.Copy()
	l, _ := parse.All(wire + wire)
	first, _, _ := p.Next()
	for _, r := range append(l, first) {
		clear(r.Head.Fields[:cap(r.Head.Fields)])
		if len(r.Query) != 3 || r.Query[0].Name != "a" {
			t.Error(r.Query)
		}
		clear(r.Query[:cap(r.Query)])
	}
	clear(l[:cap(l)])
	for _, held := range []*parse.Parser{p, c, c} {
		if r, ok, _ := held.Next(); !ok || !same(r, want[0]) || !same(r, want[1]) {
			t.Error(r, ok)
		}
	}
	wantAll(t, wire+wire, want, 0)
}

// R4: parsers know nothing of one another, by turns and at one time.
func TestParsersApart(t *testing.T) {
	a, b := fed(t, get[:9]), fed(t, codes[:9])
	wantNothing(t, a)
	wantFeed(t, b, codes[9:]+abc, api.OK)
	wantFeed(t, a, get[9:], api.OK)
	broken := fed(t, "\r\n\r\n")
	wantBreaks(t, broken, 400)
	wantTaken(t, b, chunkedRequest("abc"), len(codes+abc))
	wantTaken(t, a, getRequest(), len(get))
	wantStands(t, fed(t), 0, 0)

	var all sync.WaitGroup
	for range 8 {
		all.Go(func() {
			for range 200 {
				p := fed(t, get, codes, abc[:4])
				wantTaken(t, p, getRequest(), len(get))
				wantNothing(t, p)
				wantFeed(t, p, abc[4:], api.OK)
				wantTaken(t, p, chunkedRequest("abc"), len(codes+abc))
				wantAll(t, get+"x\r\n\r\n", []api.Request{getRequest()}, 400)
				wantChunks(t, abc, 0, "abc", 13, false, 0)
				wantChunks(t, "ffff\r\n", 0, "", 0, false, 413)
			}
		})
	}
	all.Wait()
}
