package reply_test

import (
	"cloister/api"
	"cloister/reply"
	"fmt"
	"math"
	"math/rand"
	"regexp"
	"slices"
	"strconv"
	"strings"
	"sync"
	"testing"
	"unsafe"
)

const (
	ok200 = "HTTP/1.1 200 OK\r\n"
	none  = "content-length: 0\r\n"
	keep  = "connection: keep-alive\r\n"
	shut  = "connection: close\r\n"
	end   = "\r\n"
	empty = ok200 + none + keep + end
)

var (
	nameForm  = regexp.MustCompile("^[a-z0-9!#$%&'*+\\-.^_`|~]+$")
	valueForm = regexp.MustCompile("^([!-~]([\t -~]*[!-~])?)?$")
	wholeForm = regexp.MustCompile("^HTTP/1\\.1 ([2-5][0-9][0-9]) ([A-Za-z ]+)\r\n((?:[!-~]+: [\t -~]*\r\n)*)content-length: (0|[1-9][0-9]{0,6})\r\nconnection: (close|keep-alive)\r\n\r\n")
)

// words are the document's reasons.
func words(status int) string {
	switch status {
	case 200:
		return "OK"
	case 201:
		return "Created"
	case 204:
		return "No Content"
	case 400:
		return "Bad Request"
	case 401:
		return "Unauthorized"
	case 403:
		return "Forbidden"
	case 404:
		return "Not Found"
	case 409:
		return "Conflict"
	case 413:
		return "Content Too Large"
	case 431:
		return "Request Header Fields Too Large"
	case 500:
		return "Internal Server Error"
	case 503:
		return "Service Unavailable"
	case 505:
		return "HTTP Version Not Supported"
	}
	return ""
}

// pairs are those of names and values by turns.
func pairs(texts ...string) []api.Pair {
	var out []api.Pair
	for i := 0; i < len(texts); i += 2 {
		out = append(out, api.Pair{Name: texts[i], Value: texts[i+1]})
	}
	return out
}

// with is the response of 200 with such fields.
func with(texts ...string) api.Response {
	return api.Response{Status: 200, Fields: pairs(texts...)}
}

// many are so many fields, no two of them the same.
func many(count int) []api.Pair {
	var out []api.Pair
	for i := range count {
		out = append(out, api.Pair{Name: fmt.Sprint("f", i), Value: fmt.Sprint("v", i)})
	}
	return out
}

// lines are those fields' lines.
func lines(count int) string {
	var out strings.Builder
	for i := range count {
		fmt.Fprintf(&out, "f%d: v%d\r\n", i, i)
	}
	return out.String()
}

// sized is a text that tells a body's length, and what stands behind.
func sized(length any, behind string) string {
	return fmt.Sprint(ok200, "content-length: ", length, end, keep, end, behind)
}

// bytesOf hands on all bytes, each as a text.
func bytesOf(take func(b byte, s string)) {
	for b := range 256 {
		take(byte(b), string([]byte{byte(b)}))
	}
}

// texts hands on all texts of at most so many of the pieces.
func texts(pieces []string, most int, take func(s string)) {
	take("")
	if most == 0 {
		return
	}
	for _, piece := range pieces {
		texts(pieces, most-1, func(s string) { take(piece + s) })
	}
}

// random is a text of at most so many of the pieces.
func random(from *rand.Rand, pieces []string, most int) string {
	var out strings.Builder
	for range from.Intn(most + 1) {
		out.WriteString(pieces[from.Intn(len(pieces))])
	}
	return out.String()
}

func same(a, b api.Response) bool {
	return a.Status == b.Status && slices.Equal(a.Fields, b.Fields) && a.Body == b.Body && a.Close == b.Close
}

// zero tells whether a response has nothing at all.
func zero(r api.Response) bool {
	return r.Status == 0 && len(r.Fields) == 0 && r.Body == "" && !r.Close
}

// shown is a response, what is long in it cut off.
func shown(r api.Response) string {
	if len(r.Body) > 100 {
		r.Body = fmt.Sprint(r.Body[:20], "..", len(r.Body))
	}
	return fmt.Sprintf("%.400q", fmt.Sprint(r))
}

// isRight is what the document says of which responses may be, told by patterns.
func isRight(r api.Response) bool {
	for _, f := range r.Fields {
		if !nameForm.MatchString(f.Name) || f.Name == "content-length" || f.Name == "connection" || !valueForm.MatchString(f.Value) {
			return false
		}
	}
	return r.Status >= 200 && r.Status <= 599 && len(r.Fields) <= 32 && len(r.Body) <= 1048576
}

// printed is what the document says of Print.
func printed(r api.Response) (string, api.Errno) {
	if !isRight(r) {
		return "", api.ErrReply
	}
	reason := words(r.Status)
	if reason == "" {
		reason = "Status"
	}
	var fields strings.Builder
	for _, f := range r.Fields {
		fields.WriteString(f.Name + ": " + f.Value + "\r\n")
	}
	ending := map[bool]string{true: "close", false: "keep-alive"}[r.Close]
	return fmt.Sprintf("HTTP/1.1 %d %s\r\n%scontent-length: %d\r\nconnection: %s\r\n\r\n%s", r.Status, reason, fields.String(), len(r.Body), ending, r.Body), api.OK
}

// parsed is what the document says of Parse, told by a pattern.
func parsed(s string) (api.Response, int, api.Errno) {
	found := wholeForm.FindStringSubmatch(s)
	if found == nil {
		return api.Response{}, 0, api.ErrReply
	}
	behind := s[len(found[0]):]
	length, _ := strconv.Atoi(found[4])
	if length > len(behind) {
		return api.Response{}, 0, api.ErrReply
	}
	r := api.Response{Body: behind[:length], Close: found[5] == "close"}
	r.Status, _ = strconv.Atoi(found[1])
	if reason := words(r.Status); found[2] != reason && (reason != "" || found[2] != "Status") {
		return api.Response{}, 0, api.ErrReply
	}
	for line := range strings.Lines(found[3]) {
		name, value, _ := strings.Cut(strings.TrimSuffix(line, "\r\n"), ": ")
		r.Fields = append(r.Fields, api.Pair{Name: name, Value: value})
	}
	if !isRight(r) {
		return api.Response{}, 0, api.ErrReply
	}
	return r, len(found[0]) + length, api.OK
}

func wantReason(t *testing.T, status int, want string, wantE api.Errno) {
	t.Helper()
	if got, e := reply.Reason(status); got != want || e != wantE {
		t.Errorf("Reason(%d): %q %v, not %q %v", status, got, e, want, wantE)
	}
}

func wantPrint(t *testing.T, r api.Response, want string, wantE api.Errno) {
	t.Helper()
	if got, e := reply.Print(r); got != want || e != wantE {
		t.Errorf("Print(%s): %.400q %v, not %.400q %v", shown(r), got, e, want, wantE)
	}
}

func wantNoPrint(t *testing.T, r api.Response) {
	t.Helper()
	wantPrint(t, r, "", api.ErrReply)
}

func wantParse(t *testing.T, s string, want api.Response, wantN int) {
	t.Helper()
	if r, n, e := reply.Parse(s); !same(r, want) || n != wantN || e != api.OK {
		t.Errorf("Parse(%.400q): %s %d %v, not %s %d", s, shown(r), n, e, shown(want), wantN)
	}
}

func wantNoParse(t *testing.T, s string) {
	t.Helper()
	if r, n, e := reply.Parse(s); !zero(r) || n != 0 || e != api.ErrReply {
		t.Errorf("Parse(%.400q): %s %d %v", s, shown(r), n, e)
	}
}

// holdPrint holds Print against the document's rules; what is printed must be
// read again, whatever stands behind (Re3).
func holdPrint(t *testing.T, r api.Response) {
	t.Helper()
	want, e := printed(r)
	wantPrint(t, r, want, e)
	if e == api.OK {
		for _, behind := range []string{"", "x", end, want, r.Body} {
			wantParse(t, want+behind, r, len(want))
		}
	}
}

// holdParse holds Parse against the document's rules.
func holdParse(t *testing.T, s string) {
	t.Helper()
	want, n, e := parsed(s)
	if e != api.OK {
		wantNoParse(t, s)
		return
	}
	wantParse(t, s, want, n)
	wantPrint(t, want, s[:n], api.OK)
}

func TestExamples(t *testing.T) {
	wantPrint(t, reply.Plain(200, "hi", false), "HTTP/1.1 200 OK\r\ncontent-length: 2\r\nconnection: keep-alive\r\n\r\nhi", api.OK)
	wantPrint(t, reply.Plain(299, "", true), "HTTP/1.1 299 Status\r\ncontent-length: 0\r\nconnection: close\r\n\r\n", api.OK)
	wantNoPrint(t, reply.Plain(600, "hi", false))
}

func TestNumbers(t *testing.T) {
	if api.ErrNone != 3 || api.ErrReply != 90 || api.MaxFields != 32 {
		t.Error("errors or limits")
	}
}

// Re1: each status of the list, those beside them, and any other.
func TestReason(t *testing.T) {
	count := 0
	hold := func(status int) {
		t.Helper()
		if want := words(status); want != "" {
			count++
			wantReason(t, status, want, api.OK)
		} else {
			wantReason(t, status, "", api.ErrNone)
		}
	}
	for status := -1000; status < 70000; status++ {
		hold(status)
	}
	if count != 13 {
		t.Error(count, "reasons")
	}
	for _, status := range []int{math.MinInt, math.MinInt + 200, math.MinInt32, math.MaxInt32, math.MaxInt, 1<<32 + 200, 1<<16 + 200, -1<<32 + 404} {
		wantReason(t, status, "", api.ErrNone)
	}
}

// Re1: whatever Plain is handed is in its response, whether that may be or not.
func TestPlain(t *testing.T) {
	for _, status := range []int{math.MinInt, -1, 0, 1, 199, 200, 299, 404, 599, 600, math.MaxInt} {
		for _, text := range []string{"", "a", "a\r\n\r\nb", "\x00\xff", strings.Repeat("x", 1<<20), strings.Repeat("x", 1<<20+1)} {
			for _, ends := range []bool{false, true} {
				got := reply.Plain(status, text, ends)
				if got.Status != status || len(got.Fields) != 0 || got.Body != text || got.Close != ends {
					t.Error(status, len(text), ends, shown(got))
				}
				holdPrint(t, got)
			}
		}
	}
}

// Re1: statuses, their reasons, and those that are none.
func TestPrintStatus(t *testing.T) {
	for status := -300; status < 1300; status++ {
		holdPrint(t, api.Response{Status: status, Fields: pairs("a", "b"), Body: "c"})
	}
	for _, status := range []int{200, 201, 599} {
		if _, e := reply.Print(reply.Plain(status, "", false)); e != api.OK {
			t.Error(status, e)
		}
	}
	for _, status := range []int{199, 600, 0, -1, -200, -404, 20, 2000, math.MinInt, math.MaxInt, 1<<32 + 200, 1<<16 + 200} {
		wantNoPrint(t, reply.Plain(status, "", false))
	}
	wantPrint(t, reply.Plain(599, "x", false), "HTTP/1.1 599 Status\r\ncontent-length: 1\r\nconnection: keep-alive\r\n\r\nx", api.OK)
	wantPrint(t, reply.Plain(431, "", true), "HTTP/1.1 431 Request Header Fields Too Large\r\ncontent-length: 0\r\nconnection: close\r\n\r\n", api.OK)
}

// Re1: how many fields there are, and that they stand in their order, twice too.
func TestPrintFields(t *testing.T) {
	for _, count := range []int{0, 1, 2, 31, 32} {
		r := api.Response{Status: 200, Fields: many(count)}
		wantPrint(t, r, ok200+lines(count)+none+keep+end, api.OK)
		holdPrint(t, r)
	}
	for _, count := range []int{33, 34, 64, 1000} {
		wantNoPrint(t, api.Response{Status: 200, Fields: many(count)})
	}
	wantPrint(t, with("b", "2", "a", "1", "b", "2", "b", "1"), ok200+"b: 2\r\na: 1\r\nb: 2\r\nb: 1\r\n"+none+keep+end, api.OK)
	wantPrint(t, api.Response{Status: 201, Fields: pairs("set-cookie", "sid=ab; x"), Body: "c", Close: true}, "HTTP/1.1 201 Created\r\nset-cookie: sid=ab; x\r\ncontent-length: 1\r\nconnection: close\r\n\r\nc", api.OK)
	wantPrint(t, api.Response{Status: 200, Fields: []api.Pair{}}, empty, api.OK)
}

// Re1: names: their bytes, and the two that may not be.
func TestPrintName(t *testing.T) {
	bytesOf(func(b byte, s string) {
		good := strings.IndexByte("abcdefghijklmnopqrstuvwxyz0123456789!#$%&'*+-.^_`|~", b) >= 0
		for _, name := range []string{s, s + "a", "a" + s, "a" + s + "z"} {
			if good {
				wantPrint(t, with(name, "v"), ok200+name+": v\r\n"+none+keep+end, api.OK)
			} else {
				wantNoPrint(t, with(name, "v"))
			}
			holdPrint(t, with("x", "y", name, "v"))
		}
	})
	for _, name := range []string{"", "content-length", "connection", "Content-Length", "Connection", "X", "xY", "a b", "a:", ":", "a: b", " a", "a\t", "a\r\nb", "a\x00", "\u017f", "\u00e4", "\xff"} {
		wantNoPrint(t, with(name, "1"))
		wantNoPrint(t, with("a", "b", name, "1"))
		wantNoPrint(t, with(name, "1", "a", "b"))
		wantNoPrint(t, with(name, ""))
	}
	for _, name := range []string{"content-lengt", "content-length-", "content_length", "contentlength", "connectio", "connections", "proxy-connection", "x-content-length", "close", "http", "transfer-encoding", "host", "0", strings.Repeat("n", 5000)} {
		wantPrint(t, with(name, "v"), ok200+name+": v\r\n"+none+keep+end, api.OK)
		holdPrint(t, with(name, "v", name, "", "a", name))
	}
}

// Re1: values: their bytes, and blanks and tabs at their ends and within.
func TestPrintValue(t *testing.T) {
	bytesOf(func(b byte, s string) {
		visible := b >= 33 && b <= 126
		within := visible || b == ' ' || b == '\t'
		for _, value := range []string{s, s + "a", "a" + s} {
			if visible {
				wantPrint(t, with("x", value), ok200+"x: "+value+end+none+keep+end, api.OK)
			} else {
				wantNoPrint(t, with("x", value))
			}
			holdPrint(t, with("x", value))
		}
		if within {
			wantPrint(t, with("x", "a"+s+"z"), ok200+"x: a"+s+"z"+end+none+keep+end, api.OK)
		} else {
			wantNoPrint(t, with("x", "a"+s+"z"))
		}
	})
	for _, value := range []string{" ", "\t", "  ", " a", "a ", "\ta", "a\t", " a ", "a \t", "a\r\nb: c", "a\r", "\na", "a\x00b", "a\x7fb", "\u00e4", "a\u00a0b", "a\u2028b", "\xff"} {
		wantNoPrint(t, with("x", value))
		wantNoPrint(t, with("a", "b", "x", value, "c", "d"))
	}
	for _, value := range []string{"", "a", "a b", "a\tb", "a \t b", ":", ": ", "a: b", "close", "content-length: 5", "\"", "a=b; c=d", strings.Repeat("v ", 5000) + "v"} {
		if strings.HasSuffix(value, " ") {
			wantNoPrint(t, with("x", value))
			continue
		}
		wantPrint(t, with("x", value), ok200+"x: "+value+end+none+keep+end, api.OK)
		holdPrint(t, with("x", value, "y", "", "z", value))
	}
	texts([]string{"a", " ", "\t", ":", "~", "\r", "\n", "\x00"}, 5, func(value string) { holdPrint(t, with("x", value)) })
}

// Re1: bodies of whatever bytes, and how many they may be; closing or not.
func TestPrintBody(t *testing.T) {
	for _, body := range []string{"", "a", "\r\n\r\n", "a\r\n\r\nb", empty, "\x00", "\xff\xfe", "\u00e4", none, strings.Repeat("b", 9), strings.Repeat("b", 10), strings.Repeat("b", 1<<20-1), strings.Repeat("\r\n", 1<<19)} {
		r := api.Response{Status: 404, Fields: pairs("a", "b"), Body: body}
		length := strconv.Itoa(len(body))
		wantPrint(t, r, "HTTP/1.1 404 Not Found\r\na: b\r\ncontent-length: "+length+end+keep+end+body, api.OK)
		holdPrint(t, r)
		r.Close = true
		wantPrint(t, r, "HTTP/1.1 404 Not Found\r\na: b\r\ncontent-length: "+length+end+shut+end+body, api.OK)
		holdPrint(t, r)
	}
	for _, length := range []int{1<<20 + 1, 1<<20 + 2, 1 << 21} {
		wantNoPrint(t, reply.Plain(200, strings.Repeat("b", length), false))
	}
	bytesOf(func(b byte, s string) { holdPrint(t, reply.Plain(200, s+"a"+s, true)) })
}

// R2: of several faults too there is the error and nothing else.
func TestPrintSeveralFaults(t *testing.T) {
	long := strings.Repeat("b", 1<<20+1)
	for _, status := range []int{199, 200, 600} {
		for _, fields := range [][]api.Pair{nil, many(33), pairs("", " "), pairs("connection", "close"), pairs("A", "b", "c", "\r\n")} {
			for _, body := range []string{"", long} {
				if status == 200 && fields == nil && body == "" {
					continue
				}
				wantNoPrint(t, api.Response{Status: status, Fields: fields, Body: body, Close: true})
			}
		}
	}
}

// Re2: what is right, all of it told.
func TestParse(t *testing.T) {
	for _, right := range []struct {
		s string
		r api.Response
	}{
		{empty, with()},
		{ok200 + none + shut + end, api.Response{Status: 200, Close: true}},
		{sized(2, "hi"), api.Response{Status: 200, Body: "hi"}},
		{sized(12, "0123456789ab"), api.Response{Status: 200, Body: "0123456789ab"}},
		{"HTTP/1.1 599 Status\r\na: b\r\na: \r\nc: d: e\r\n" + none + keep + end, api.Response{Status: 599, Fields: pairs("a", "b", "a", "", "c", "d: e")}},
		{"HTTP/1.1 505 HTTP Version Not Supported\r\n!#$%&'*+-.^_`|~09az: !~ \t \"():;A\r\ncontent-length: 4\r\nconnection: close\r\n\r\n\r\n\r\n", api.Response{Status: 505, Fields: pairs("!#$%&'*+-.^_`|~09az", "!~ \t \"():;A"), Body: "\r\n\r\n", Close: true}},
		{ok200 + "x: content-length: 0\r\ny: connection: close\r\n" + none + keep + end, with("x", "content-length: 0", "y", "connection: close")},
		{ok200 + lines(32) + none + keep + end, api.Response{Status: 200, Fields: many(32)}},
	} {
		for _, behind := range []string{"", "x", "\r\n", "\x00\xff", right.s, strings.Repeat("y", 70000)} {
			wantParse(t, right.s+behind, right.r, len(right.s))
			holdParse(t, right.s+behind)
		}
		// Each beginning that lacks something is none.
		for i := range len(right.s) {
			wantNoParse(t, right.s[:i])
		}
		holdPrint(t, right.r)
	}
}

// Re2: a text that differs by a byte from one of Print's: what is changed, put
// in, left out, or comes twice.
func TestParseByteChanged(t *testing.T) {
	for _, s := range []string{
		sized(2, "hi"),
		ok200 + "a: b\r\nx-y: \r\n" + none + shut + end + "x",
		"HTTP/1.1 299 Status\r\ncontent-length: 10\r\nconnection: keep-alive\r\n\r\n0123456789",
		"HTTP/1.1 204 No Content\r\nb: c d\r\n" + none + keep + end,
	} {
		for i := range len(s) {
			bytesOf(func(b byte, one string) {
				holdParse(t, s[:i]+one+s[i+1:])
				holdParse(t, s[:i]+one+s[i:])
			})
			holdParse(t, s[:i]+s[i+1:])
			holdParse(t, s[:i]+s[i:i+1]+s[i:])
			if i+2 <= len(s) {
				holdParse(t, s[:i]+s[i+2:])
				holdParse(t, s[:i]+s[i+1:i+2]+s[i:i+1]+s[i+2:])
			}
		}
	}
}

// Re2: the first line.
func TestParseFirstLine(t *testing.T) {
	rest := end + none + keep + end
	for status := range 1200 {
		for _, reason := range []string{"OK", "Status", "Not Found", words(status), ""} {
			holdParse(t, fmt.Sprint("HTTP/1.1 ", status, " ", reason, rest))
		}
	}
	for _, line := range []string{
		"", " ", "HTTP/1.1", "HTTP/1.1 ", "HTTP/1.1 200", "HTTP/1.1 200 ", "HTTP/1.1  200 OK", "HTTP/1.1 200  OK", "HTTP/1.1 200 OK ", " HTTP/1.1 200 OK", "HTTP/1.1\t200 OK", "HTTP/1.1 200\tOK",
		"HTTP/1.0 200 OK", "HTTP/1.2 200 OK", "HTTP/2.0 200 OK", "http/1.1 200 OK", "HTTP/1.10 200 OK", "HTTP/1 200 OK", "HTP/1.1 200 OK", "200 OK", "x 200 OK",
		"HTTP/1.1 20 OK", "HTTP/1.1 20 Status", "HTTP/1.1 2000 OK", "HTTP/1.1 2000 Status", "HTTP/1.1 0200 OK", "HTTP/1.1 00200 OK", "HTTP/1.1 +200 OK", "HTTP/1.1 -200 OK", "HTTP/1.1 2_00 OK", "HTTP/1.1 0xc8 OK", "HTTP/1.1 2e2 OK", "HTTP/1.1 199 Status", "HTTP/1.1 600 Status", "HTTP/1.1 0 Status", "HTTP/1.1 100 Status", "HTTP/1.1 -1 Status",
		"HTTP/1.1 18446744073709551816 OK", "HTTP/1.1 4294967496 OK", "HTTP/1.1 " + strings.Repeat("9", 400) + " Status", "HTTP/1.1 " + strings.Repeat("0", 400) + "200 OK",
		"HTTP/1.1 200 Ok", "HTTP/1.1 200 ok", "HTTP/1.1 200 O", "HTTP/1.1 200 OKAY", "HTTP/1.1 200 Status", "HTTP/1.1 200 Created", "HTTP/1.1 201 OK", "HTTP/1.1 299 OK", "HTTP/1.1 299 status", "HTTP/1.1 299 ", "HTTP/1.1 299", "HTTP/1.1 299 Status Status", "HTTP/1.1 404 Not  Found", "HTTP/1.1 404 Not", "HTTP/1.1 404 Found",
		"HTTP/1.1 200 OK\n", "HTTP/1.1 200 OK\r", "HTTP/1.1 200 OK\r\n", "\r\nHTTP/1.1 200 OK", "HTTP/1.1 200 \r\nOK", "HTTP/1.1 200\r\n OK", "\xef\xbb\xbfHTTP/1.1 200 OK", "HTTP/1.1 \u0662\u0660\u0660 OK",
	} {
		wantNoParse(t, line+rest)
		holdParse(t, line+rest)
	}
}

// Re2: fields that Print would not write, how many, and where.
func TestParseFields(t *testing.T) {
	for _, fields := range []string{
		"\r\n", "a\r\n", "a:\r\n", "a:b\r\n", "a :b\r\n", "a : b\r\n", "a:  b\r\n", "a: b \r\n", "a: b\t\r\n", "a: \tb\r\n", "a:\tb\r\n", "a:  \r\n", "a: \t\r\n", " a: b\r\n", "\ta: b\r\n", "A: b\r\n", "aB: c\r\n", ": b\r\n", ":\r\n", ": \r\n", "a b: c\r\n", "(a): b\r\n", "a: b\n", "a: b\r", "a: b\r\r\n", "a: b\n\r\n", "a: b\x00\r\n", "a: \xff\r\n", "a: \u00e4\r\n", "\u00e4: b\r\n", "a\x00: b\r\n", "a: b\r\n c\r\n", "a: b\r\n\r\n",
		none, "content-length: 5\r\n", "content-length: \r\n", "Content-Length: 0\r\n", "CONTENT-LENGTH: 0\r\n", "content-length:0\r\n", keep, shut, "connection: x\r\n", "connection: \r\n", "Connection: close\r\n", "connection:close\r\n",
	} {
		for _, ahead := range []string{"", "x: y\r\n", lines(31)} {
			for _, behind := range []string{"", "z: \r\n"} {
				wantNoParse(t, ok200+ahead+fields+behind+none+keep+end)
				holdParse(t, ok200+ahead+fields+behind+sized(3, "abc")[len(ok200):])
			}
		}
	}
	for _, count := range []int{0, 1, 2, 31, 32} {
		s := ok200 + lines(count) + none + shut + end
		wantParse(t, s+"x", api.Response{Status: 200, Fields: many(count), Close: true}, len(s))
	}
	for _, count := range []int{33, 34, 100, 5000} {
		wantNoParse(t, ok200+lines(count)+none+keep+end)
	}
}

// Re2: in whatever order the lines stand, only Print's is right.
func TestParseOrder(t *testing.T) {
	pieces := []string{ok200, "a: b\r\n", none, "content-length: 1\r\n", keep, shut, end}
	texts(pieces, 6, func(s string) {
		holdParse(t, s)
		holdParse(t, ok200+s+"x")
		holdParse(t, ok200+s+end)
	})
	wantNoParse(t, ok200+keep+none+end)
	wantNoParse(t, ok200+none+"a: b\r\n"+keep+end)
	wantNoParse(t, ok200+none+keep+"a: b\r\n"+end)
	wantNoParse(t, ok200+none+end)
	wantNoParse(t, ok200+keep+end)
	wantNoParse(t, ok200+end)
	wantNoParse(t, none+keep+end)
	wantNoParse(t, ok200+none+none+keep+end)
	wantNoParse(t, ok200+none+keep+keep+end)
	wantNoParse(t, ok200+none+keep+shut+end)
	wantNoParse(t, strings.ReplaceAll(empty, "\r\n", "\n"))
	wantNoParse(t, strings.ReplaceAll(empty, "\r\n", "\r"))
}

// Re2, R5: lengths: what their forms are, and how much stands behind.
func TestParseLength(t *testing.T) {
	for _, length := range []string{
		"", " ", "00", "01", "05", "000", "+0", "-0", "+1", "-1", "-5", " 1", "1 ", "\t1", "1\t", "1,", "1, 1", "1.0", "1e1", "0x1", "1_0", "a", "\u0661", "1\r", "\"1\"",
		"6", "7", "100", "1048576", "1048577", "2147483647", "2147483648", "4294967296", "4294967301", "9223372036854775807", "9223372036854775808", "18446744073709551616", "18446744073709551621", "-9223372036854775808", "-18446744073709551616", strings.Repeat("9", 18), strings.Repeat("9", 19), strings.Repeat("1", 1000), strings.Repeat("0", 1000) + "5",
	} {
		wantNoParse(t, sized(length, "abcde"))
		holdParse(t, sized(length, ""))
	}
	for length := range 6 {
		s := sized(length, "abcde"[:length])
		wantParse(t, s, reply.Plain(200, "abcde"[:length], false), len(s))
		wantParse(t, sized(length, "abcde"), reply.Plain(200, "abcde"[:length], false), len(s))
	}
	wantNoParse(t, ok200+"content-length:1\r\n"+keep+end+"x")
	wantNoParse(t, ok200+"content-length 1\r\n"+keep+end+"x")
	wantNoParse(t, ok200+"1\r\n"+keep+end+"x")
	wantNoParse(t, ok200+"0\r\n"+keep+end)
	most := strings.Repeat("b", 1<<20)
	for _, length := range []int{9, 10, 99, 100, 1<<20 - 1, 1 << 20} {
		s := sized(length, most[:length])
		wantParse(t, s, reply.Plain(200, most[:length], false), len(s))
		wantParse(t, s+most, reply.Plain(200, most[:length], false), len(s))
		wantNoParse(t, s[:len(s)-1])
	}
	wantNoParse(t, sized(1<<20+1, most+"b"))
	wantNoParse(t, sized(1<<20+1, most+most))
	wantNoParse(t, sized(1<<20, most[1:]))
	wantNoParse(t, sized(1<<21, most+most))
}

// Re2: the word of the connection.
func TestParseConnection(t *testing.T) {
	read := func(line string) string { return ok200 + "content-length: 1\r\n" + line + end + end + "x" }
	for _, line := range []string{
		"", "connection", "connection:", "connection: ", "connection:close", "connection:  close", "connection: close ", "connection: close\t", "connection: Close", "connection: CLOSE", "connection: Keep-Alive", "connection: keep-alive ", "connection: keepalive", "connection: keep-alive, close", "connection: close, x", "connection: x", "connection: true", "connection: clos", "connection: closed", "connection: upgrade", "Connection: close", "connections: close", "connection : close", " connection: close", "close", "keep-alive", "x: close", "connection: close\n", "connection: \r\nclose",
	} {
		wantNoParse(t, read(line))
		holdParse(t, read(line))
	}
	s := read("connection: close")
	wantParse(t, s, reply.Plain(200, "x", true), len(s))
	s = read("connection: keep-alive")
	wantParse(t, s, reply.Plain(200, "x", false), len(s))
}

// anyResponse is one that may be.
func anyResponse(from *rand.Rand) api.Response {
	names := []string{"a", "0", "-", "set-cookie", "!#$%&'*+-.^_`|~"}
	values := []string{"", "a", "a b", "a\tb", ":", "x: y", "content-length: 1", "~!"}
	r := api.Response{Status: 200 + from.Intn(400), Close: from.Intn(2) == 0}
	if from.Intn(2) == 0 {
		r.Status = []int{200, 201, 204, 400, 401, 403, 404, 409, 413, 431, 500, 503, 505}[from.Intn(13)]
	}
	for range from.Intn(33) * from.Intn(2) {
		r.Fields = append(r.Fields, api.Pair{Name: names[from.Intn(len(names))] + names[from.Intn(len(names))], Value: values[from.Intn(len(values))]})
	}
	r.Body = random(from, []string{"a", "\r\n", "\x00", "\xff", empty, none, keep, "b: c\r\n", " "}, 12)
	return r
}

// Re3, P8: responses one behind the other are told apart, whatever they hold.
func TestOneBehindTheOther(t *testing.T) {
	from := rand.New(rand.NewSource(1))
	for range 3000 {
		var all []api.Response
		var text strings.Builder
		for range 1 + from.Intn(6) {
			r := anyResponse(from)
			s, e := reply.Print(r)
			if e != api.OK {
				t.Fatal(shown(r), e)
			}
			all = append(all, r)
			text.WriteString(s)
		}
		behind := random(from, []string{"x", "\r\n", "HTTP/1.1 200 ", "\x00"}, 3)
		rest := text.String() + behind
		for _, want := range all {
			r, n, e := reply.Parse(rest)
			if !same(r, want) || e != api.OK || n <= 0 {
				t.Fatalf("%s %v, not %s", shown(r), e, shown(want))
			}
			rest = rest[n:]
		}
		if rest != behind {
			t.Fatalf("%q is left, not %q", rest, behind)
		}
		wantNoParse(t, rest)
	}
	two := sized(1, "a") + sized(2, "bc")
	wantParse(t, two, reply.Plain(200, "a", false), len(sized(1, "a")))
	wantParse(t, two[len(sized(1, "a")):], reply.Plain(200, "bc", false), len(sized(2, "bc")))
}

// P8: any response that may be comes back; what is read comes back as it stood.
func TestThereAndBack(t *testing.T) {
	from := rand.New(rand.NewSource(2))
	for range 5000 {
		r := anyResponse(from)
		holdPrint(t, r)
		text, _ := reply.Print(r)
		// A piece of it left out, put in or laid elsewhere.
		i, j, k := from.Intn(len(text)+1), from.Intn(len(text)+1), from.Intn(len(text)+1)
		cuts := []int{i, j, k}
		slices.Sort(cuts)
		i, j, k = cuts[0], cuts[1], cuts[2]
		holdParse(t, text[:i]+text[j:])
		holdParse(t, text[:j]+text[i:])
		holdParse(t, text[:i]+text[j:k]+text[i:j]+text[k:])
	}
}

// R1 and R2: whatever is handed in, each call ends, and beside an error there is
// nothing else.
func TestAnyBytes(t *testing.T) {
	from := rand.New(rand.NewSource(3))
	likely := "HTTP/1.1 200 OK\r\ncontent-length: 0\r\nconnection: close\r\n\r\n"
	pieces := []string{"HTTP/1.1", " ", "200", "299", "600", "OK", "Status", end, end, "content-length", "connection", ": ", "close", "keep-alive", "0", "1", "a", ":"}
	for range 20000 {
		raw := make([]byte, from.Intn(80))
		from.Read(raw)
		for i := range raw {
			if from.Intn(3) > 0 {
				raw[i] = likely[from.Intn(len(likely))]
			}
		}
		s := string(raw)
		for _, text := range []string{s, ok200 + s, ok200 + none + keep + end + s, ok200 + s + none + keep + end, random(from, pieces, 30), ok200 + random(from, pieces, 15)} {
			holdParse(t, text)
		}
		half := len(s) / 2
		holdPrint(t, api.Response{Status: from.Int() - from.Int(), Fields: pairs(s, s), Body: s})
		holdPrint(t, api.Response{Status: 200, Fields: pairs(s[:half], s[half:]), Body: s, Close: true})
		holdPrint(t, api.Response{Status: 200, Fields: pairs("a", s), Body: s})
		reply.Reason(from.Int() - from.Int())
	}
	for _, s := range []string{"", "\r\n", "\r\n\r\n", "\x00", ": ", " ", strings.Repeat("\r\n", 50000), strings.Repeat(": \r\n", 50000), strings.Repeat(" ", 1<<20), ok200 + strings.Repeat("a: b\r\n", 50000), ok200 + "a: " + strings.Repeat("b", 1<<20)} {
		wantNoParse(t, s)
	}
}

// overlaps tells whether two texts share memory.
func overlaps(a, b string) bool {
	if a == "" || b == "" {
		return false
	}
	p, q := uintptr(unsafe.Pointer(unsafe.StringData(a))), uintptr(unsafe.Pointer(unsafe.StringData(b)))
	return p < q+uintptr(len(b)) && q < p+uintptr(len(a))
}

// R3: what is answered shares no memory with what was handed in.
func TestAnswersAreNew(t *testing.T) {
	s := string([]byte(ok200 + "name: value\r\ncontent-length: 4\r\n" + keep + end + "body"))
	r, _, _ := reply.Parse(s)
	for _, text := range []string{r.Fields[0].Name, r.Fields[0].Value, r.Body} {
		if overlaps(text, s) {
			t.Errorf("Parse: %q lies in what was handed in", text)
		}
	}
	if plain := reply.Plain(200, r.Body, false); overlaps(plain.Body, r.Body) {
		t.Error("Plain: the body is what was handed in")
	}
	text, _ := reply.Print(r)
	for _, part := range []string{r.Fields[0].Name, r.Fields[0].Value, r.Body} {
		if overlaps(text, part) {
			t.Errorf("Print: %q lies in what was handed in", part)
		}
	}
}

// R3: a list that is handed in stays as it is, what lies behind its end is not
// read, and answers stay when others are changed.
func TestListsApart(t *testing.T) {
	whole := pairs("a", "b", "c", "d", "connection", "close", "", "")
	held := slices.Clone(whole)
	r := api.Response{Status: 200, Fields: whole[:2], Body: "e"}
	text, e := reply.Print(r)
	if text != ok200+"a: b\r\nc: d\r\ncontent-length: 1\r\n"+keep+end+"e" || e != api.OK || !slices.Equal(whole, held) {
		t.Error(text, e, whole)
	}
	wantNoPrint(t, api.Response{Status: 200, Fields: whole[:3]})
	if !slices.Equal(whole, held) {
		t.Error(whole)
	}
	first, _, _ := reply.Parse(text)
	second, _, _ := reply.Parse(text)
	clear(first.Fields[:cap(first.Fields)])
	_ = append(first.Fields, pairs("y", "z")...)
	if !same(second, r) {
		t.Error(second)
	}
	wantParse(t, text, r, len(text))
	wantPrint(t, with(), empty, api.OK)
	wantPrint(t, api.Response{Status: 200, Fields: whole[:0]}, empty, api.OK)
}

// R4: the same again is answered likewise, whatever was asked between, and by
// many at one time.
func TestAgain(t *testing.T) {
	var all sync.WaitGroup
	shared := api.Response{Status: 404, Fields: pairs("a", "b"), Body: "c", Close: true}
	text := "HTTP/1.1 404 Not Found\r\na: b\r\ncontent-length: 1\r\n" + shut + end + "c"
	for worker := range 8 {
		all.Go(func() {
			from := rand.New(rand.NewSource(int64(worker)))
			for range 300 {
				r := anyResponse(from)
				s, _ := reply.Print(r)
				reply.Parse(s[from.Intn(len(s)):])
				reply.Plain(from.Int(), s, true)
				wantPrint(t, shared, text, api.OK)
				wantParse(t, text+s, shared, len(text))
				wantNoParse(t, text[:len(text)-1])
				wantNoPrint(t, reply.Plain(600, s, false))
				wantReason(t, 431, "Request Header Fields Too Large", api.OK)
				wantReason(t, 299, "", api.ErrNone)
			}
		})
	}
	all.Wait()
}
