package head_test

import (
	"cloister/api"
	"cloister/head"
	"cloister/uri"
	"fmt"
	"math"
	"math/rand"
	"regexp"
	"slices"
	"strconv"
	"strings"
	"sync"
	"testing"
	"unsafe"
)

const (
	nameBytes = "ABCDEFGHIJKLMNOPQRSTUVWXYZabcdefghijklmnopqrstuvwxyz0123456789!#$%&'*+-.^_`|~"
	get       = "GET / HTTP/1.1\r\n"
	old       = "GET / HTTP/1.0\r\n"
	host      = "Host: a\r\n"
	end       = "\r\n"
)

var (
	requestForm  = regexp.MustCompile(`^([A-Z]{1,16}) ([!-~]+) HTTP/([0-9]\.[0-9])$`)
	fieldForm    = regexp.MustCompile("^([A-Za-z0-9!#$%&'*+\\-.^_`|~]+):[ \t]*((?:[!-~](?:[\t -~]*[!-~])?)?)[ \t]*$")
	largeLetters = regexp.MustCompile(`[A-Z]+`)
	lengthForm   = regexp.MustCompile(`^[0-9]{1,9}$`)
)

// pairs are those of names and values by turns.
func pairs(texts ...string) []api.Pair {
	var out []api.Pair
	for i := 0; i < len(texts); i += 2 {
		out = append(out, api.Pair{Name: texts[i], Value: texts[i+1]})
	}
	return out
}

// with is the head of GET / with such fields.
func with(minor int, texts ...string) api.Head {
	return api.Head{Method: "GET", Target: "/", Minor: minor, Fields: pairs(texts...)}
}

// lines are so many fields' lines, no two of them the same.
func lines(count int) string {
	var out strings.Builder
	for i := range count {
		fmt.Fprintf(&out, "f%d: v%d\r\n", i, i)
	}
	return out.String()
}

// many are the fields of those lines.
func many(count int) []api.Pair {
	var out []api.Pair
	for i := range count {
		out = append(out, api.Pair{Name: fmt.Sprint("f", i), Value: fmt.Sprint("v", i)})
	}
	return out
}

// bytesOf hands on all bytes, each as a text.
func bytesOf(take func(b byte, s string)) {
	for b := range 256 {
		take(byte(b), string([]byte{byte(b)}))
	}
}

// texts hands on all texts of at most so many of the pieces.
func texts(pieces []string, most int, take func(s string)) {
	take("")
	if most == 0 {
		return
	}
	for _, piece := range pieces {
		texts(pieces, most-1, func(s string) { take(piece + s) })
	}
}

// random is a text of at most so many of the pieces.
func random(from *rand.Rand, pieces []string, most int) string {
	var out strings.Builder
	for range from.Intn(most + 1) {
		out.WriteString(pieces[from.Intn(len(pieces))])
	}
	return out.String()
}

// folded is a text in small letters, told by a pattern.
func folded(s string) string {
	return string(largeLetters.ReplaceAllFunc([]byte(s), func(found []byte) []byte { return []byte(strings.ToLower(string(found))) }))
}

func equal(a, b api.Head) bool {
	return a.Method == b.Method && a.Target == b.Target && a.Minor == b.Minor && slices.Equal(a.Fields, b.Fields)
}

// lineStatus is what the document says of the line of a number, told by patterns.
func lineStatus(number int, line string, ended bool) int {
	if len(line) > 1024 {
		return 431
	}
	if !ended || strings.ContainsAny(line, "\r\n") {
		return 400
	}
	if number > 0 {
		if number > 32 {
			return 431
		}
		if !fieldForm.MatchString(line) {
			return 400
		}
		return 0
	}
	found := requestForm.FindStringSubmatch(line)
	if found == nil {
		return 400
	}
	if found[3] != "1.0" && found[3] != "1.1" {
		return 505
	}
	if _, _, e, _ := uri.Target(found[2]); e != api.OK {
		return 400
	}
	return 0
}

// parsed is what the document says of Parse.
func parsed(s string) (api.Head, int, int) {
	if len(s) > 4096 {
		return api.Head{}, 431, 0
	}
	ahead, behind, whole := strings.Cut(s, "\r\n\r\n")
	all := strings.Split(ahead, "\r\n")
	place := 0
	for number, line := range all {
		if status := lineStatus(number, line, whole || number < len(all)-1); status != 0 {
			return api.Head{}, status, place
		}
		place += len(line) + 2
	}
	if behind != "" {
		return api.Head{}, 400, len(s)
	}
	found := requestForm.FindStringSubmatch(all[0])
	h := api.Head{Method: found[1], Target: found[2]}
	if found[3] == "1.1" {
		h.Minor = 1
	}
	hosts := 0
	for _, line := range all[1:] {
		found := fieldForm.FindStringSubmatch(line)
		if folded(found[1]) == "host" {
			hosts++
		}
		h.Fields = append(h.Fields, api.Pair{Name: folded(found[1]), Value: found[2]})
	}
	if hosts > 1 || hosts < h.Minor {
		return api.Head{}, 400, 0
	}
	return h, 0, 0
}

// printed is what the document says of Print.
func printed(h api.Head) (string, api.Errno) {
	text := fmt.Sprintf("%s %s HTTP/1.%d\r\n", h.Method, h.Target, h.Minor)
	for _, f := range h.Fields {
		text += f.Name + ": " + f.Value + "\r\n"
	}
	text += "\r\n"
	if back, status, _ := parsed(text); status != 0 || !equal(back, h) {
		return "", api.ErrHead
	}
	return text, api.OK
}

// named are the values of the fields of a name.
func named(h api.Head, name string) []string {
	var out []string
	for _, f := range h.Fields {
		if f.Name == name {
			out = append(out, f.Value)
		}
	}
	return out
}

// bodied is what the document says of Body.
func bodied(h api.Head) (int, int, int) {
	lengths, codings := named(h, "content-length"), named(h, "transfer-encoding")
	if len(lengths)+len(codings) == 0 {
		return 0, 0, 0
	}
	if len(lengths) == 0 {
		if len(codings) == 1 && folded(codings[0]) == "chunked" && h.Minor == 1 {
			return 2, 0, 0
		}
		return 0, 0, 400
	}
	if len(codings) > 0 || len(slices.Compact(slices.Clone(lengths))) > 1 || !lengthForm.MatchString(lengths[0]) {
		return 0, 0, 400
	}
	n, _ := strconv.Atoi(lengths[0])
	if n > 16384 {
		return 0, 0, 413
	}
	return 1, n, 0
}

// closing is what the document says of Closes.
func closing(h api.Head) bool {
	words := strings.Split(folded(strings.Join(named(h, "connection"), ",")), ",")
	for i, word := range words {
		words[i] = strings.Trim(word, " \t")
	}
	if slices.Contains(words, "close") {
		return true
	}
	return h.Minor == 0 && !slices.Contains(words, "keep-alive")
}

func wantParse(t *testing.T, s string, want api.Head, wantStatus, wantAt int) {
	t.Helper()
	if h, status, at := head.Parse(s); !equal(h, want) || status != wantStatus || at != wantAt {
		t.Errorf("Parse(%q): %+v %d %d, not %+v %d %d", s, h, status, at, want, wantStatus, wantAt)
	}
}

func wantRefused(t *testing.T, s string, status, at int) {
	t.Helper()
	wantParse(t, s, api.Head{}, status, at)
}

func wantPrint(t *testing.T, h api.Head, want string, wantE api.Errno) {
	t.Helper()
	if got, e := head.Print(h); got != want || e != wantE {
		t.Errorf("Print(%+v): %q %v, not %q %v", h, got, e, want, wantE)
	}
}

func wantValues(t *testing.T, h api.Head, name string, want ...string) {
	t.Helper()
	if got := head.Values(h, name); !slices.Equal(got, want) {
		t.Errorf("Values(%+v, %q): %q, not %q", h, name, got, want)
	}
}

func wantBody(t *testing.T, h api.Head, wantKind, wantN, wantStatus int) {
	t.Helper()
	if kind, n, status := head.Body(h); kind != wantKind || n != wantN || status != wantStatus {
		t.Errorf("Body(%+v): %d %d %d, not %d %d %d", h, kind, n, status, wantKind, wantN, wantStatus)
	}
}

func wantCloses(t *testing.T, h api.Head, want bool) {
	t.Helper()
	if got := head.Closes(h); got != want {
		t.Errorf("Closes(%+v): %v", h, got)
	}
}

// holdParse holds Parse against the document's rules; a head that is read must
// come back from its print, if that is not too long by its blanks (He4).
func holdParse(t *testing.T, s string) {
	t.Helper()
	want, status, at := parsed(s)
	wantParse(t, s, want, status, at)
	if h, status, _ := head.Parse(s); status == 0 {
		holdPrint(t, h)
	}
}

// holdPrint holds Print against the document's rules.
func holdPrint(t *testing.T, h api.Head) {
	t.Helper()
	text, e := printed(h)
	wantPrint(t, h, text, e)
	if text, e := head.Print(h); e == api.OK {
		wantParse(t, text, h, 0, 0)
	}
}

func TestExamples(t *testing.T) {
	wantParse(t, get+host+end, with(1, "host", "a"), 0, 0)
	wantRefused(t, get+end, 400, 0)
	wantRefused(t, "GET / HTTP/2.0\r\n"+host+end, 505, 0)
	wantRefused(t, "get / HTTP/1.1\r\n"+host+end, 400, 0)
	wantBody(t, with(1, "content-length", "5", "content-length", "5"), api.BodyLength, 5, 0)
	wantBody(t, with(1, "content-length", "5", "content-length", "05"), 0, 0, 400)
	wantBody(t, with(1, "content-length", "99999"), 0, 0, 413)
	wantCloses(t, with(1, "connection", "a, Close"), true)
}

func TestNumbers(t *testing.T) {
	if api.ErrHead != 70 || api.MaxHead != 4096 || api.MaxLine != 1024 || api.MaxFields != 32 || api.MaxBody != 16384 {
		t.Error("errors or limits")
	}
	if api.BodyNone != 0 || api.BodyLength != 1 || api.BodyChunked != 2 {
		t.Error("kinds of bodies")
	}
}

// He1: what is right, all of it told.
func TestParse(t *testing.T) {
	for _, right := range []struct {
		s string
		h api.Head
	}{
		{old + end, with(0)},
		{old + host + end, with(0, "host", "a")},
		{get + "Host:\r\n" + end, with(1, "host", "")},
		{get + "X-A: 1\r\nHost: a\r\nx-a: 2\r\n" + end, with(1, "x-a", "1", "host", "a", "x-a", "2")},
		{get + "HOST:a:b:\r\n" + end, with(1, "host", "a:b:")},
		{"POST /a%20b?c=d+e&f HTTP/1.1\r\n" + host + end, api.Head{Method: "POST", Target: "/a%20b?c=d+e&f", Minor: 1, Fields: pairs("host", "a")}},
		{"X /!~ HTTP/1.0\r\n!#$%&'*+-.^_`|~09azAZ:!~ \t \"():;\r\n" + end, api.Head{Method: "X", Target: "/!~", Fields: pairs("!#$%&'*+-.^_`|~09azaz", "!~ \t \"():;")}},
		{get + host + "content-length: 5\r\nContent-Length: 6\r\n" + end, with(1, "host", "a", "content-length", "5", "content-length", "6")},
		{get + "Hosts: b\r\nHost: a\r\nHos: c\r\nHost-: d\r\n" + end, with(1, "hosts", "b", "host", "a", "hos", "c", "host-", "d")},
	} {
		wantParse(t, right.s, right.h, 0, 0)
		holdParse(t, right.s)
	}
}

func TestParseLengthOfText(t *testing.T) {
	// Four lines of fields, the last one of which fills the head.
	fill := func(bytes int) string {
		s := get + host
		for range 3 {
			s += "x:" + strings.Repeat("y", 1022) + end
		}
		return s + "x:" + strings.Repeat("z", bytes-len(s)-6) + end + end
	}
	for _, bytes := range []int{4095, 4096} {
		s := fill(bytes)
		if h, status, at := head.Parse(s); len(s) != bytes || len(h.Fields) != 5 || status != 0 || at != 0 {
			t.Error(len(s), status, at)
		}
		holdParse(t, s)
	}
	wantRefused(t, fill(4097), 431, 0)
	// That it is long counts ahead of all else.
	for _, s := range []string{
		strings.Repeat("x", 4097), strings.Repeat("\r\n", 2049), get + host + end + strings.Repeat("x", 4096), "GET / HTTP/2.0\r\n" + strings.Repeat("x", 4096), strings.Repeat("\x00", 1<<20),
	} {
		wantRefused(t, s, 431, 0)
	}
	// Of as many bytes as there may be what is wrong counts.
	wantRefused(t, get+host+end+strings.Repeat("x", 4096-27), 400, 4096)
	wantRefused(t, strings.Repeat("\r\n", 2048), 400, 0)
	wantRefused(t, get+strings.Repeat("x", 4096-16), 431, 16)
}

func TestParseLengthOfLines(t *testing.T) {
	target := func(bytes int) string { return "/" + strings.Repeat("x", bytes-len("GET / HTTP/1.1")) }
	request := func(bytes int) string { return "GET " + target(bytes) + " HTTP/1.1\r\n" }
	wantParse(t, request(1024)+host+end, api.Head{Method: "GET", Target: target(1024), Minor: 1, Fields: pairs("host", "a")}, 0, 0)
	wantRefused(t, request(1025)+host+end, 431, 0)
	field := func(bytes int) string { return "x:" + strings.Repeat("y", bytes-2) + end }
	wantParse(t, get+host+field(1024)+end, with(1, "host", "a", "x", strings.Repeat("y", 1022)), 0, 0)
	wantRefused(t, get+host+field(1025)+end, 431, 25)
	wantRefused(t, get+field(1025)+host+end, 431, 16)
	// Blanks around a value, and a long name, count as bytes of the line.
	wantParse(t, get+host+"x:"+strings.Repeat(" ", 511)+strings.Repeat("\t", 510)+"y"+end+end, with(1, "host", "a", "x", "y"), 0, 0)
	wantRefused(t, get+host+"x:"+strings.Repeat(" ", 511)+strings.Repeat("\t", 511)+"y"+end+end, 431, 25)
	wantParse(t, get+host+strings.Repeat("N", 1023)+":"+end+end, with(1, "host", "a", strings.Repeat("n", 1023), ""), 0, 0)
	wantRefused(t, get+host+strings.Repeat("N", 1024)+":"+end+end, 431, 25)
	// Wrong otherwise too: at 1024 that counts, at 1025 it does not.
	for _, wrong := range []string{"x", "\x00", " ", "\r", "\n", "\xff"} {
		line := strings.Repeat(wrong, 1024)
		wantRefused(t, line+end+end, 400, 0)
		wantRefused(t, line+wrong+end+end, 431, 0)
		wantRefused(t, get+host+line+end+end, 400, 25)
		wantRefused(t, get+host+line+wrong+end+end, 431, 25)
	}
	// So also of a line that has no end, half an end being bytes of it.
	for _, rest := range []string{strings.Repeat("x", 1024), "x:" + strings.Repeat("y", 1022), strings.Repeat("x", 1023) + "\r", strings.Repeat("x", 1023) + "\n"} {
		wantRefused(t, rest, 400, 0)
		wantRefused(t, "x"+rest, 431, 0)
		wantRefused(t, get+rest, 400, 16)
		wantRefused(t, get+"x"+rest, 431, 16)
	}
	wantRefused(t, "GET "+target(1025)+" HTTP/2.0\r\n"+host+end, 431, 0)
	wantRefused(t, "GET "+target(1024)+" HTTP/2.0\r\n"+host+end, 505, 0)
	// Of several lines that are wrong the first one, whatever they are wrong by.
	wantRefused(t, get+"x\r\n"+field(1025)+end, 400, 16)
	wantRefused(t, get+field(1025)+"x\r\n"+end, 431, 16)
	wantRefused(t, "GET / HTTP/3.0\r\n"+field(1025)+end, 505, 0)
	// Behind the empty line nothing is a line.
	wantRefused(t, get+host+end+field(1025)+end, 400, 25+2+1027+2)
}

func TestParseMethod(t *testing.T) {
	for count := range 40 {
		method := strings.Repeat("M", count)
		if count >= 1 && count <= 16 {
			wantParse(t, method+" / HTTP/1.0\r\n\r\n", api.Head{Method: method, Target: "/"}, 0, 0)
		} else {
			wantRefused(t, method+" / HTTP/1.0\r\n\r\n", 400, 0)
			// Else it is not right but for its version.
			wantRefused(t, method+" / HTTP/2.0\r\n\r\n", 400, 0)
		}
	}
	bytesOf(func(b byte, s string) {
		for _, method := range []string{s, "A" + s, s + "Z", "A" + s + "Z"} {
			switch {
			case b >= 'A' && b <= 'Z':
				wantParse(t, method+" / HTTP/1.0\r\n\r\n", api.Head{Method: method, Target: "/"}, 0, 0)
			case b != ' ' || method != "A ":
				wantRefused(t, method+" / HTTP/1.0\r\n\r\n", 400, 0)
				wantRefused(t, method+" / HTTP/2.0\r\n\r\n", 400, 0)
			}
		}
	})
	wantRefused(t, "A  / HTTP/1.0\r\n\r\n", 400, 0)
	wantRefused(t, " GET / HTTP/1.0\r\n\r\n", 400, 0)
}

func TestParseTarget(t *testing.T) {
	line := func(target, version string) string { return "GET " + target + " " + version + "\r\n\r\n" }
	for _, target := range []string{"/", "/a?b=c", "//", "/??", "/%41%ff", "/a;b,c", "/?" + strings.Repeat("a&", 32)} {
		wantParse(t, line(target, "HTTP/1.0"), api.Head{Method: "GET", Target: target}, 0, 0)
		wantRefused(t, line(target, "HTTP/2.0"), 505, 0)
	}
	// What layer 6 refuses is right by the grammar, so another version counts ahead.
	for _, target := range []string{"x", "*", "http://a/", "/%", "/%4g", "/#", "#", "/a#b", "/?%zz", "/?" + strings.Repeat("a&", 33), "?", "%2F"} {
		wantRefused(t, line(target, "HTTP/1.0"), 400, 0)
		wantRefused(t, line(target, "HTTP/1.1"), 400, 0)
		wantRefused(t, line(target, "HTTP/2.0"), 505, 0)
		wantRefused(t, line(target, "HTTP/x"), 400, 0)
	}
	for _, target := range []string{"", " ", "/ ", " /", "/ /"} {
		wantRefused(t, line(target, "HTTP/1.0"), 400, 0)
		wantRefused(t, line(target, "HTTP/2.0"), 400, 0)
	}
	bytesOf(func(b byte, s string) {
		for _, target := range []string{"/" + s, "/a" + s + "b", "/a?" + s} {
			switch {
			case b < 33 || b > 126:
				wantRefused(t, line(target, "HTTP/1.0"), 400, 0)
				wantRefused(t, line(target, "HTTP/2.0"), 400, 0)
			case b == '#' || b == '%':
				wantRefused(t, line(target, "HTTP/1.0"), 400, 0)
				wantRefused(t, line(target, "HTTP/2.0"), 505, 0)
			default:
				wantParse(t, line(target, "HTTP/1.0"), api.Head{Method: "GET", Target: target}, 0, 0)
				wantRefused(t, line(target, "HTTP/2.0"), 505, 0)
			}
		}
	})
}

func TestParseVersion(t *testing.T) {
	for major := range 10 {
		for minor := range 10 {
			s := fmt.Sprintf("GET / HTTP/%d.%d\r\n%s\r\n", major, minor, host)
			if major == 1 && minor < 2 {
				wantParse(t, s, with(minor, "host", "a"), 0, 0)
			} else {
				wantRefused(t, s, 505, 0)
			}
		}
	}
	bytesOf(func(b byte, s string) {
		for at, known := range "HTTP/1.1" {
			version := "HTTP/1.1"[:at] + s + "HTTP/1.1"[at+1:]
			digit := b >= '0' && b <= '9'
			switch {
			case rune(b) == known || at == 7 && b == '0':
			case digit && (at == 5 || at == 7):
				wantRefused(t, "GET / "+version+"\r\n"+host+end, 505, 0)
			default:
				wantRefused(t, "GET / "+version+"\r\n"+host+end, 400, 0)
			}
		}
	})
	for _, version := range []string{
		"", "HTTP", "HTTP/", "HTTP/1", "HTTP/1.", "HTTP/.1", "HTTP/11", "HTTP/1.10", "HTTP/1.01", "HTTP/11.1", "HTTP/01.1", "HTTP/2", "HTTP/2.00", "HTTP/20.0", "HTTP/1.1 ", "HTTP/2.0 ", " HTTP/1.1", " HTTP/2.0", "HTTP/1.1\t", "HTTP/2.0\t",
		"http/1.1", "http/2.0", "Http/1.0", "HTTPS/1.1", "HTTP/1,1", "HTTP/2-0", "HTTP/-1.1", "HTTP/1.-1", "HTTP/a.1", "HTTP/1.1x", "xHTTP/1.1", "HTTP/1.1 HTTP/1.1", "HTTP/\uff11.1", "HTTP/1.1.1", "HTTP//1.1", "HTTP/1.1\x00", "1.1", "2.0", "/2.0", "TTP/2.0",
	} {
		wantRefused(t, "GET / "+version+"\r\n"+host+end, 400, 0)
	}
	for _, line := range []string{"", "GET", "GET ", "GET /", "GET / ", "GET  ", "GET   ", "GET HTTP/1.1", "GET  HTTP/1.1", "GET  HTTP/2.0", " / HTTP/1.1", " / HTTP/2.0", "GET\t/\tHTTP/1.1", "GET / HTTP/1.1\r", "/ HTTP/1.1", "HTTP/1.1", "HTTP/2.0", "GET /  HTTP/1.1", "Host: a"} {
		wantRefused(t, line+end+host+end, 400, 0)
	}
}

func TestParseNames(t *testing.T) {
	bytesOf(func(b byte, s string) {
		for _, name := range []string{s, "a" + s, s + "z", "a" + s + "z"} {
			text := get + host + name + ": v\r\n\r\n"
			switch {
			case strings.Contains(nameBytes, s):
				wantParse(t, text, with(1, "host", "a", folded(name), "v"), 0, 0)
			case s == ":" && name[0] == 'a':
				wantParse(t, text, with(1, "host", "a", "a", name[2:]+": v"), 0, 0)
			default:
				wantRefused(t, text, 400, 25)
			}
		}
	})
	for _, line := range []string{":", ": v", "::", " ", "\t", "v", "a b: c", "a : c", " a: c", "\ta: c", "a", "a=b", "\u00e9: v", "a\u00e9: v", "(a): v", "a,b: v", "a/b: v", "\"a\": v", "@: v", "[a]: v", "a\x00: v", "\x7f: v"} {
		wantRefused(t, get+host+line+end+end, 400, 25)
		wantRefused(t, get+line+end+host+end, 400, 16)
		wantRefused(t, old+line+end+end, 400, 16)
	}
}

func TestParseValues(t *testing.T) {
	bytesOf(func(b byte, s string) {
		for _, around := range [][2]string{{"", ""}, {" ", " "}, {"v", ""}, {"", "v"}, {"v", "v"}, {" v ", " v\t"}} {
			value := around[0] + s + around[1]
			text := get + host + "x:" + value + end + end
			if b >= 33 && b <= 126 || b == ' ' || b == '\t' {
				wantParse(t, text, with(1, "host", "a", "x", strings.Trim(value, " \t")), 0, 0)
			} else {
				wantRefused(t, text, 400, 25)
			}
		}
	})
	texts([]string{" ", "\t", "v", ":", ","}, 5, func(value string) {
		wantParse(t, get+host+"x:"+value+end+end, with(1, "host", "a", "x", strings.Trim(value, " \t")), 0, 0)
	})
	for _, value := range []string{"\u00e9", "\u00a0", "\v", "\f", "\x00", "\x7f", "\x1f", "\x80", "\xff", " \vv", "v\f "} {
		wantRefused(t, get+host+"x:"+value+end+end, 400, 25)
	}
}

// Lines without an end, with half an end within, and what stands, or does not,
// behind the last one.
func TestParseEnds(t *testing.T) {
	for _, wrong := range []struct {
		s  string
		at int
	}{
		{"", 0}, {"\r", 0}, {"\n", 0}, {"\r\n", 0}, {"\r\n\r", 0}, {"\r\n\r\n", 0}, {"\n\r\n\r\n", 0}, {"\r\n\r\n\r\n", 0}, {"\r\n" + get + host + end, 0},
		{"G", 0}, {"GET / HTTP/1.1", 0}, {"GET / HTTP/1.1\r", 0}, {"GET / HTTP/1.1\n", 0}, {"GET / HTTP/2.0", 0}, {"GET / HTTP/2.0\r", 0}, {"GET / HTTP/2.0\n\n", 0},
		{get, 16}, {get + "\r", 16}, {get + "\n", 16}, {get + "H", 16}, {get + "Host: a", 16}, {get + "Host: a\r", 16}, {get + "Host: a\n", 16},
		{get + host, 25}, {get + host + "\r", 25}, {get + host + "\n", 25}, {get + host + "x: y", 25}, {get + host + "x: y\r\n", 31},
		{old, 16}, {old + "\r", 16},
		{"GET / HTTP/1.1\n" + host + end, 0}, {"GET / HTTP/1.1\r" + host + end, 0}, {"GET / HTTP/1.1\r" + end + host + end, 0}, {"GET / HTTP/1.1\n" + end + host + end, 0},
		{"GET / HTTP/1.1\n\r\nHost: a\r\n\r\n", 0}, {"G\rET / HTTP/1.1\r\n" + host + end, 0}, {"GET /\n HTTP/1.1\r\n" + host + end, 0}, {"GET / HTTP/2.0\r\r\n" + end, 0}, {"GET / HTTP/2.0\n\r\n" + end, 0},
		{get + "Host: a\n\r\n", 16}, {get + "Host: a\n" + end + end, 16}, {get + "Host: a\r" + end + end, 16}, {get + "Host: a\rb" + end + end, 16}, {get + "Host: a\nb: c" + end + end, 16}, {get + "\rHost: a" + end + end, 16}, {get + "\nHost: a" + end + end, 16}, {get + "Ho\rst: a" + end + end, 16},
		{get + host + "\r" + end + end, 25}, {get + host + "\n" + end + end, 25}, {get + host + "\r\r\n", 25}, {get + host + " \r\n\r\n", 25}, {get + host + "x: y\r\n z\r\n\r\n", 31},
		{get + host + end + "x", 28}, {get + host + end + "\r", 28}, {get + host + end + end, 29}, {get + host + end + get + host + end, 54}, {get + host + end + "\x00\xff", 29}, {get + host + end + end + end, 31},
		{old + end + "x", 19}, {old + end + end, 20}, {get + end + "x", 19}, {get + host + host + end + "xy", 38}, {get + host + host, 34}, {get + end + "\r\n", 20},
	} {
		wantRefused(t, wrong.s, 400, wrong.at)
	}
	// An LF and a CR are no end of a line.
	wantRefused(t, get+"Host: a\n\r"+end+end, 400, 16)
	wantRefused(t, strings.ReplaceAll(get+host+end, "\r\n", "\n"), 400, 0)
	wantRefused(t, strings.ReplaceAll(get+host+end, "\r\n", "\n\r"), 400, 0)
}

// What was handed in ends where it ends: an end behind it in memory is not its.
func TestParseEndsWithItsText(t *testing.T) {
	whole := get + host + end
	for cut := range len(whole) {
		holdParse(t, whole[:cut])
		if _, status, _ := head.Parse(whole[:cut]); status != 400 {
			t.Error(cut, status)
		}
	}
	holdParse(t, whole)
}

func TestParseManyFields(t *testing.T) {
	for _, count := range []int{0, 1, 30, 31} {
		want := with(1, "host", "a")
		want.Fields = append(want.Fields, many(count)...)
		wantParse(t, get+host+lines(count)+end, want, 0, 0)
	}
	all := old + lines(32)
	wantParse(t, all+end, api.Head{Method: "GET", Target: "/", Fields: many(32)}, 0, 0)
	wantRefused(t, get+lines(32)+end, 400, 0)
	wantRefused(t, old+lines(33)+end, 431, len(all))
	wantRefused(t, old+lines(100)+end, 431, len(all))
	wantRefused(t, get+lines(32)+host+end, 431, len(all))
	// The 33rd is one too many, right or wrong.
	for _, line := range []string{"x", ": v", "a b: c", " ", "x: \x00", "\xff", "x: " + strings.Repeat("y", 1030)} {
		wantRefused(t, all+line+end+end, 431, len(all))
		wantRefused(t, all+line+end+end+"x", 431, len(all))
		wantRefused(t, all+line+end, 431, len(all))
	}
	// One that is torn is wrong by that, unless it is too long.
	for _, line := range []string{"x: y\rz", "x: y\nz", "\rx: y", "\n"} {
		wantRefused(t, all+line+end+end, 400, len(all))
	}
	wantRefused(t, all+"x: y", 400, len(all))
	wantRefused(t, all+"x: y\r", 400, len(all))
	wantRefused(t, all+strings.Repeat("x", 1025), 431, len(all))
	wantRefused(t, all+strings.Repeat("\r", 1025)+end+end, 431, len(all))
	// No field's line is the empty one, nor what is behind it.
	wantRefused(t, all, 400, len(all))
	wantRefused(t, all+end+"x: y\r\n\r\n", 400, len(all)+10)
	// A line that is wrong ahead of the 33rd counts ahead of it.
	wantRefused(t, old+"x\r\n"+lines(33)+end, 400, 16)
	wantRefused(t, old+lines(31)+"x\r\n"+lines(2)+end, 400, len(old+lines(31)))
}

func TestParseHosts(t *testing.T) {
	other := "HOST:b\r\n"
	wantRefused(t, get+end, 400, 0)
	wantParse(t, get+other+end, with(1, "host", "b"), 0, 0)
	wantRefused(t, get+host+other+end, 400, 0)
	wantRefused(t, get+host+host+end, 400, 0)
	wantRefused(t, get+host+"x: y\r\n"+other+end, 400, 0)
	wantRefused(t, get+"hosts: a\r\nx-host: b\r\nx: host\r\n"+end, 400, 0)
	wantParse(t, old+end, with(0), 0, 0)
	wantParse(t, old+other+end, with(0, "host", "b"), 0, 0)
	wantRefused(t, old+host+other+end, 400, 0)
	wantRefused(t, old+host+host+host+end, 400, 0)
	// What is wrong with a line, or with the end, counts ahead.
	wantRefused(t, get+"x\r\n"+end, 400, 16)
	wantRefused(t, get+host+host+"x\r\n"+end, 400, 34)
	wantRefused(t, get+host+host+end+"x", 400, 37)
	wantRefused(t, get+end+"x", 400, 19)
}

// He1 and He4: all texts of some pieces, and wrong ones of right heads, against
// the document's rules.
func TestParseAgainstRules(t *testing.T) {
	hold := func(s string) { holdParse(t, s) }
	texts([]string{"A", " ", "/", "HTTP/1.0", "HTTP/9.9", "\r\n", "\r", "\n"}, 6, hold)
	texts([]string{"GET / HTTP/1.1", "GET / HTTP/1.0", "\r\n", "host:a", "x:y", "\n"}, 6, hold)
	texts([]string{"host", "X", ":", " ", "\t", "a", "\r\n", "\x7f"}, 5, func(s string) {
		hold(old + s + end)
		hold(get + s + end + end)
	})
	from := rand.New(rand.NewSource(1))
	pieces := []string{"GET / HTTP/1.1\r\n", "GET", " ", "/", "HTTP/1.1", "\r\n", "\r\n", "\r", "\n", "Host: a\r\n", "x:", " y", "\t", "\x00", "\xff", ":", "\r\n\r\n", strings.Repeat("z", 500), "HTTP/3.0"}
	for range 20000 {
		hold(random(from, pieces, 12))
		hold(get + random(from, pieces, 12) + end)
	}
}

func TestParseChangedHeads(t *testing.T) {
	from := rand.New(rand.NewSource(2))
	heads := []string{
		get + host + end, old + end, "POST /a?b=%41 HTTP/1.1\r\nContent-Length: 5\r\nHOST:\tb \r\n\r\n", "GET /x HTTP/2.0\r\nhost: a\r\n\r\n",
		get + host + lines(31) + end, old + lines(33) + end, get + host + "x: " + strings.Repeat("y", 1021) + end + end, "GET /" + strings.Repeat("x", 1010) + " HTTP/1.1\r\n" + host + end,
	}
	signs := []string{"", " ", "\t", ":", "\r", "\n", "\r\n", "\r\n\r\n", "%", "#", "a", "A", "0", "/", ".", "\x00", "\x7f", "\x80", "\xff", "(", ",", "Host: b\r\n"}
	for _, s := range heads {
		holdParse(t, s)
		for at := range min(len(s)+1, 400) {
			for _, sign := range signs {
				holdParse(t, s[:at]+sign+s[at:])
				holdParse(t, s[:at]+sign+s[min(at+1, len(s)):])
			}
			holdParse(t, s[:at])
			holdParse(t, s[at:])
		}
		for range 300 {
			a, b := from.Intn(len(s)+1), from.Intn(len(s)+1)
			holdParse(t, s[:max(a, b)]+signs[from.Intn(len(signs))]+s[min(a, b):])
		}
	}
}

// He2: what can be printed.
func TestPrint(t *testing.T) {
	wantPrint(t, with(1, "host", "a"), "GET / HTTP/1.1\r\nhost: a\r\n\r\n", api.OK)
	wantPrint(t, with(0), "GET / HTTP/1.0\r\n\r\n", api.OK)
	wantPrint(t, api.Head{Method: "GET", Target: "/", Fields: []api.Pair{}}, "GET / HTTP/1.0\r\n\r\n", api.OK)
	wantPrint(t, with(0, "host", ""), "GET / HTTP/1.0\r\nhost: \r\n\r\n", api.OK)
	wantPrint(t, with(1, "x", "a: b", "host", "h:1", "x", "", "~", "a \t b"), "GET / HTTP/1.1\r\nx: a: b\r\nhost: h:1\r\nx: \r\n~: a \t b\r\n\r\n", api.OK)
	wantPrint(t, api.Head{Method: "ABCDEFGHIJKLMNOP", Target: "/a%20b?c=d", Minor: 1, Fields: pairs("host", "a", "content-length", "1", "content-length", "2")},
		"ABCDEFGHIJKLMNOP /a%20b?c=d HTTP/1.1\r\nhost: a\r\ncontent-length: 1\r\ncontent-length: 2\r\n\r\n", api.OK)
	h := api.Head{Method: "GET", Target: "/", Fields: many(32)}
	wantPrint(t, h, old+lines(32)+end, api.OK)
}

// He2: what cannot, for each reason.
func TestPrintRefuses(t *testing.T) {
	for _, method := range []string{"", "get", "Get", "G ET", "GET ", " GET", "GET /", "G\r\nT", "ABCDEFGHIJKLMNOPQ", "G1", "\u00c9", "GET / HTTP/1.1\r\nx:", "GET / HTTP/1.1\r\nhost: a\r\n\r\n"} {
		wantPrint(t, api.Head{Method: method, Target: "/", Minor: 1, Fields: pairs("host", "a")}, "", api.ErrHead)
		wantPrint(t, api.Head{Method: method, Target: "/"}, "", api.ErrHead)
	}
	for _, target := range []string{"", "x", "*", "/%", "/#", "/ ", " /", "/ x", "/\r\n", "/\x00", "/\u00e9", "/ HTTP/1.0\r\nx: y", "/ HTTP/1.1\r\nhost: a\r\n\r\n", "/?" + strings.Repeat("a&", 33), "/" + strings.Repeat("x", 1011), "/ HTTP/1.1"} {
		wantPrint(t, api.Head{Method: "GET", Target: target, Minor: 1, Fields: pairs("host", "a")}, "", api.ErrHead)
		wantPrint(t, api.Head{Method: "GET", Target: target}, "", api.ErrHead)
	}
	for _, minor := range []int{-1, 2, 9, 10, 11, 100, -10, math.MaxInt, math.MinInt, 256, 257, 1 << 32, 1<<32 + 1} {
		wantPrint(t, with(minor, "host", "a"), "", api.ErrHead)
		wantPrint(t, with(minor), "", api.ErrHead)
	}
	for _, name := range []string{"", "X", "xY", "a b", "a:", ":", "a:b", " a", "a ", "a\r\nb", "\u00e9", "a\x00", "a: b\r\nc", "\r\n", "(", "Host"} {
		wantPrint(t, with(1, "host", "a", name, "v"), "", api.ErrHead)
		wantPrint(t, with(1, name, "v", "host", "a"), "", api.ErrHead)
		wantPrint(t, with(0, name, "v"), "", api.ErrHead)
	}
	for _, value := range []string{" ", "\t", " v", "v ", "\tv", "v\t", "v\r", "v\n", "\r\n", "v\r\nx: y", "v\r\n\r\n", "v\x00", "\x7f", "\u00e9", "\xff", strings.Repeat("v", 1022), strings.Repeat("v", 5000)} {
		wantPrint(t, with(1, "host", "a", "x", value), "", api.ErrHead)
		wantPrint(t, with(1, "x", value, "host", "a"), "", api.ErrHead)
		wantPrint(t, with(0, "x", value), "", api.ErrHead)
	}
	wantPrint(t, with(1), "", api.ErrHead)
	wantPrint(t, with(1, "x", "y"), "", api.ErrHead)
	wantPrint(t, with(1, "host", "a", "host", "a"), "", api.ErrHead)
	wantPrint(t, with(0, "host", "a", "host", "b"), "", api.ErrHead)
	wantPrint(t, api.Head{Method: "GET", Target: "/", Fields: many(33)}, "", api.ErrHead)
	wantPrint(t, api.Head{}, "", api.ErrHead)
	wantPrint(t, api.Head{Method: "GET"}, "", api.ErrHead)
	wantPrint(t, api.Head{Target: "/"}, "", api.ErrHead)
	// Two fields that would be read as another pair of fields.
	wantPrint(t, with(1, "host", "a\r\nx: y"), "", api.ErrHead)
	wantPrint(t, with(0, "x: y\r\nz", "w"), "", api.ErrHead)
}

// He2 at the limits of lines and of the whole.
func TestPrintLimits(t *testing.T) {
	long := strings.Repeat("v", 1021)
	wantPrint(t, with(1, "host", "a", "x", long), get+"host: a\r\nx: "+long+end+end, api.OK)
	wantPrint(t, with(1, "host", "a", "x", long+"v"), "", api.ErrHead)
	target := "/" + strings.Repeat("x", 1010)
	wantPrint(t, api.Head{Method: "GET", Target: target}, "GET "+target+" HTTP/1.0\r\n\r\n", api.OK)
	wantPrint(t, api.Head{Method: "GET", Target: target + "x"}, "", api.ErrHead)
	three := []string{"host", "a", "x", long, "x", long, "x", long}
	text := get + "host: a\r\n" + strings.Repeat("x: "+long+end, 3)
	last := strings.Repeat("w", 4096-len(text)-len("y: ")-4)
	wantPrint(t, with(1, append(three, "y", last)...), text+"y: "+last+end+end, api.OK)
	wantPrint(t, with(1, append(three, "y", last+"w")...), "", api.ErrHead)
	wantPrint(t, with(1, append(three, "y", last[5:], "z", "")...), text+"y: "+last[5:]+end+"z: "+end+end, api.OK)
	wantPrint(t, with(1, append(three, "y", last[4:], "z", "")...), "", api.ErrHead)
	huge := api.Head{Method: "GET", Target: "/", Fields: make([]api.Pair, 1<<20)}
	for i := range huge.Fields {
		huge.Fields[i] = api.Pair{Name: "x", Value: long}
	}
	wantPrint(t, huge, "", api.ErrHead)
	wantPrint(t, api.Head{Method: strings.Repeat("G", 1<<22), Target: strings.Repeat("/", 1<<22)}, "", api.ErrHead)
}

// A head that could be read need not fit any more, a blank being written behind
// each colon.
func TestPrintOfWhatWasReadWithoutBlanks(t *testing.T) {
	h, status, _ := head.Parse(get + host + "x:" + strings.Repeat("y", 1022) + end + end)
	if status != 0 {
		t.Fatal(status)
	}
	wantPrint(t, h, "", api.ErrHead)
	h, _, _ = head.Parse(get + host + "x:" + strings.Repeat("y", 1021) + end + end)
	wantPrint(t, h, get+"host: a\r\nx: "+strings.Repeat("y", 1021)+end+end, api.OK)
}

// He2 and He4: heads of all kinds of parts.
func TestPrintAgainstRules(t *testing.T) {
	methods := []string{"GET", "GET", "P", "", "g", "GET /"}
	targets := []string{"/", "/a?b", "/", "x", "", "/ HTTP/1.1\r\nx: y", "/%"}
	names := []string{"host", "host", "x", "X", "x-y", "", "a b", "a:b", "x: y\r\nz", "connection"}
	values := []string{"a", "", "a b", " a", "a\t", "a: b", "a\r\nb: c", "\x00", "a,b"}
	from := rand.New(rand.NewSource(3))
	one := func(l []string) string { return l[from.Intn(len(l))] }
	fine := 0
	for range 50000 {
		h := api.Head{Method: one(methods), Target: one(targets), Minor: from.Intn(4) - 1}
		for range from.Intn(4) {
			h.Fields = append(h.Fields, api.Pair{Name: one(names), Value: one(values)})
		}
		holdPrint(t, h)
		if _, e := head.Print(h); e == api.OK {
			fine++
		}
	}
	if fine < 500 {
		t.Error("only", fine, "could be printed")
	}
}

// He2: names in large letters are asked for in small ones.
func TestValues(t *testing.T) {
	h := with(1, "host", "a", "x", "1", "x-y", "2", "x", "", "x", "1", "\u00e9", "3", "", "4", "X", "5", "x_09!", "6", "[", "7", "{", "8")
	wantValues(t, h, "host", "a")
	wantValues(t, h, "Host", "a")
	wantValues(t, h, "HOST", "a")
	wantValues(t, h, "x", "1", "", "1")
	wantValues(t, h, "X", "1", "", "1")
	wantValues(t, h, "X-Y", "2")
	wantValues(t, h, "X_09!", "6")
	wantValues(t, h, "", "4")
	wantValues(t, h, "\u00e9", "3")
	wantValues(t, h, "\u00c9")
	wantValues(t, h, "[", "7")
	wantValues(t, h, "{", "8")
	for _, name := range []string{"y", "hos", "hosts", "host ", " host", "host:", "x-", "\x00", "\xff", "\u212a"} {
		wantValues(t, h, name)
	}
	wantValues(t, api.Head{}, "host")
	wantValues(t, api.Head{}, "")
	all := api.Head{Fields: slices.Repeat(pairs("k", "v", "K", "w"), 100)}
	wantValues(t, all, "K", slices.Repeat([]string{"v"}, 100)...)
	bytesOf(func(b byte, s string) {
		wantValues(t, with(0, folded(s), "v"), s, "v")
		if b >= 'A' && b <= 'Z' {
			wantValues(t, with(0, s, "v"), s)
			wantValues(t, with(0, s, "v"), strings.ToLower(s))
		}
	})
}

// He3: lengths alike and unlike, of 0, 1, 9 and 10 digits, at and above MaxBody.
func TestBodyLength(t *testing.T) {
	for _, right := range []struct {
		value string
		n     int
	}{
		{"0", 0}, {"1", 1}, {"9", 9}, {"10", 10}, {"16383", 16383}, {"16384", 16384}, {"05", 5}, {"00", 0}, {"000000000", 0}, {"000000007", 7}, {"000016384", 16384},
	} {
		for _, minor := range []int{0, 1} {
			wantBody(t, with(minor, "content-length", right.value), api.BodyLength, right.n, 0)
			wantBody(t, with(minor, "host", "a", "content-length", right.value, "x", "y", "content-length", right.value), api.BodyLength, right.n, 0)
			wantBody(t, with(minor, "content-length", right.value, "content-length", right.value, "content-length", right.value), api.BodyLength, right.n, 0)
		}
	}
	for _, large := range []string{"16385", "99999", "100000", "999999999", "100000000", "000016385", "016385"} {
		wantBody(t, with(1, "content-length", large), 0, 0, 413)
		wantBody(t, with(0, "content-length", large, "content-length", large), 0, 0, 413)
	}
	for _, wrong := range []string{
		"", " ", "a", "5a", "a5", "-1", "+5", "-0", " 5", "5 ", "5\t", "5,5", "5, 5", "0x5", "5.0", "1e1", "1_0", "\uff15", "\u0665", "5\x00", "/", ":",
		"1000000000", "0000000005", "9999999999", "0000000000", "00000000000000000005", "18446744073709551621", strings.Repeat("9", 4000),
	} {
		wantBody(t, with(1, "content-length", wrong), 0, 0, 400)
		wantBody(t, with(0, "content-length", wrong), 0, 0, 400)
		wantBody(t, with(1, "content-length", wrong, "content-length", wrong), 0, 0, 400)
		wantBody(t, with(1, "content-length", wrong, "content-length", "5"), 0, 0, 400)
		wantBody(t, with(1, "content-length", "5", "content-length", wrong), 0, 0, 400)
	}
	// Unlike counts ahead of large.
	for _, unlike := range [][]string{{"5", "6"}, {"5", "05"}, {"05", "5"}, {"0", "00"}, {"99999", "99998"}, {"5", "99999"}, {"99999", "5"}, {"5", "5", "6"}, {"6", "5", "5"}, {"5", "6", "5"}, {"5", ""}, {"99999", "099999"}} {
		h := with(1)
		for _, value := range unlike {
			h.Fields = append(h.Fields, api.Pair{Name: "content-length", Value: value})
		}
		wantBody(t, h, 0, 0, 400)
	}
	for n := range 16500 {
		kind, status := api.BodyLength, 0
		if n > 16384 {
			kind, status = 0, 413
		}
		wantBody(t, with(1, "content-length", strconv.Itoa(n)), kind, n*kind, status)
	}
}

// He3: chunked, in large letters, twice, of HTTP/1.0; both kinds of fields; none.
func TestBodyChunked(t *testing.T) {
	for _, value := range []string{"chunked", "Chunked", "CHUNKED", "cHuNkEd"} {
		wantBody(t, with(1, "transfer-encoding", value), api.BodyChunked, 0, 0)
		wantBody(t, with(1, "host", "a", "transfer-encoding", value, "te", "trailers"), api.BodyChunked, 0, 0)
		for _, minor := range []int{0, 2, -1, 10} {
			wantBody(t, with(minor, "transfer-encoding", value), 0, 0, 400)
		}
		wantBody(t, with(1, "transfer-encoding", value, "transfer-encoding", value), 0, 0, 400)
		wantBody(t, with(1, "transfer-encoding", value, "transfer-encoding", ""), 0, 0, 400)
		wantBody(t, with(1, "transfer-encoding", "gzip", "transfer-encoding", value), 0, 0, 400)
		for _, length := range []string{"5", "0", "", "x", "99999"} {
			for _, minor := range []int{0, 1} {
				wantBody(t, with(minor, "transfer-encoding", value, "content-length", length), 0, 0, 400)
				wantBody(t, with(minor, "content-length", length, "transfer-encoding", value), 0, 0, 400)
				wantBody(t, with(minor, "content-length", length, "transfer-encoding", "x"), 0, 0, 400)
			}
		}
	}
	for _, value := range []string{"", "chunke", "chunkedx", "chunked,", "chunked, chunked", "gzip, chunked", "identity", "gzip", " chunked", "chunked ", "chunked;q=1", "\"chunked\"", "chun\u212aed", "chunked\x00"} {
		wantBody(t, with(1, "transfer-encoding", value), 0, 0, 400)
		wantBody(t, with(0, "transfer-encoding", value), 0, 0, 400)
	}
	for _, minor := range []int{0, 1, 2, -1} {
		wantBody(t, with(minor), api.BodyNone, 0, 0)
		wantBody(t, with(minor, "host", "a", "content-lengt", "5", "transfer-encodings", "chunked", "content-type", "6", "x", "content-length"), api.BodyNone, 0, 0)
	}
	wantBody(t, api.Head{}, api.BodyNone, 0, 0)
}

func TestBodyAgainstRules(t *testing.T) {
	fields := pairs("content-length", "5", "content-length", "05", "content-length", "16384", "content-length", "16385", "content-length", "x", "transfer-encoding", "Chunked", "transfer-encoding", "gzip", "host", "5")
	from := rand.New(rand.NewSource(4))
	for range 50000 {
		h := api.Head{Minor: from.Intn(4) - 1}
		for range from.Intn(5) {
			h.Fields = append(h.Fields, fields[from.Intn(len(fields))])
		}
		kind, n, status := bodied(h)
		wantBody(t, h, kind, n, status)
	}
}

// He3: words of the fields connection, of both versions.
func TestCloses(t *testing.T) {
	closes := func(values []string, want1, want0 bool) {
		t.Helper()
		h := with(1, "host", "a")
		for _, value := range values {
			h.Fields = append(h.Fields, api.Pair{Name: "connection", Value: value}, api.Pair{Name: "x", Value: "close, keep-alive"})
		}
		wantCloses(t, h, want1)
		h.Minor = 0
		wantCloses(t, h, want0)
		h.Minor = 2
		wantCloses(t, h, want1)
		h.Minor = -1
		wantCloses(t, h, want1)
	}
	closes(nil, false, true)
	for _, value := range []string{"close", "Close", "CLOSE", "cLoSe", " close", "\tclose\t ", "a,close", "close,a", "a, Close", "a ,\tCLOSE\t, b", ",close,", ",,close", "keep-alive, close", "close, keep-alive", "Close,Keep-Alive,close"} {
		closes([]string{value}, true, true)
		closes([]string{"x", value}, true, true)
		closes([]string{value, "keep-alive"}, true, true)
		closes([]string{"keep-alive", value}, true, true)
		closes([]string{"", value, ","}, true, true)
	}
	for _, value := range []string{"keep-alive", "Keep-Alive", "KEEP-ALIVE", " keep-alive ", "\tkeep-alive", "a, Keep-alive", "keep-alive,a", "a\t,\tkeep-alive\t,b", ",keep-alive,,", "keep-alive, keep-alive", "keep-alive, closed"} {
		closes([]string{value}, false, false)
		closes([]string{"x", value}, false, false)
		closes([]string{value, "clos"}, false, false)
	}
	for _, value := range []string{"", " ", ",", ", ,", "x", "closed", "clos", "close x", "xclose", "close;", "\"close\"", "keep-alives", "keep alive", "keepalive", "keep-alive x", "keep-alive;close", "close\x00", "\vclose", "close\n", "\rclose", "\u00a0close", "clo\u017fe", "\u212aeep-alive", "close\tkeep-alive", "keep-alive close", "close.keep-alive"} {
		closes([]string{value}, false, true)
		closes([]string{value, value}, false, true)
	}
	// Words do not go on from one field to the next.
	closes([]string{"clo", "se"}, false, true)
	closes([]string{"keep-", "alive"}, false, true)
	// No other field's words count.
	wantCloses(t, with(1, "connections", "close", "proxy-connection", "close", "x", "connection: close"), false)
	wantCloses(t, with(0, "connections", "keep-alive", "keep-alive", "keep-alive"), true)
	wantCloses(t, api.Head{}, true)
}

func TestClosesAgainstRules(t *testing.T) {
	pieces := []string{"close", "Close", "keep-alive", "Keep-Alive", ",", ",", " ", "\t", "a"}
	texts(pieces, 4, func(value string) {
		for _, minor := range []int{0, 1} {
			h := with(minor, "connection", value)
			wantCloses(t, h, closing(h))
			h = with(minor, "connection", "x", "connection", value)
			wantCloses(t, h, closing(h))
		}
	})
	from := rand.New(rand.NewSource(5))
	for range 20000 {
		h := with(from.Intn(3) - 1)
		for range from.Intn(4) {
			h.Fields = append(h.Fields, api.Pair{Name: []string{"connection", "host"}[from.Intn(2)], Value: random(from, pieces, 6)})
		}
		wantCloses(t, h, closing(h))
	}
}

// He4: names in other letters, and blanks and tabs around values, change nothing.
func TestLettersAndBlanks(t *testing.T) {
	names := []string{"host", "content-length", "transfer-encoding", "connection", "x-a!9"}
	values := []string{"5", "chunked", "close", "a, Keep-Alive", "", "A b\tC"}
	from := rand.New(rand.NewSource(6))
	letters := func(s string) string {
		out := []byte(s)
		for i, b := range out {
			if b >= 'a' && b <= 'z' && from.Intn(2) == 0 {
				out[i] = b - 32
			}
		}
		return string(out)
	}
	space := func() string { return random(from, []string{" ", "\t"}, 4) }
	for range 20000 {
		one := []string{get, old}[from.Intn(2)]
		other := one
		for range from.Intn(6) {
			name, value := names[from.Intn(len(names))], values[from.Intn(len(values))]
			one += name + ": " + value + end
			other += letters(name) + ":" + space() + value + space() + end
		}
		h, status, at := head.Parse(one + end)
		wantParse(t, other+end, h, status, at)
		back, _, _ := head.Parse(other + end)
		kind, n, status := head.Body(h)
		wantBody(t, back, kind, n, status)
		wantCloses(t, back, head.Closes(h))
		for _, name := range names {
			wantValues(t, back, letters(name), head.Values(h, name)...)
		}
	}
}

// R1 and R2: whatever is handed in, each call ends, and beside a status and an
// error there is nothing else.
func TestAnyBytes(t *testing.T) {
	from := rand.New(rand.NewSource(7))
	for range 20000 {
		raw := make([]byte, from.Intn(80))
		from.Read(raw)
		for i := range raw {
			if from.Intn(3) > 0 {
				raw[i] = "GET / HTTP/1.1\r\nHost: a\r\n\r\n,5"[from.Intn(29)]
			}
		}
		s := string(raw)
		holdParse(t, s)
		holdParse(t, get+host+s)
		holdParse(t, get+host+s+end+end)
		half := len(s) / 2
		h := api.Head{Method: s[:half], Target: s[half:], Minor: from.Int() - from.Int(), Fields: pairs(s, s, "connection", s, "content-length", s[half:])}
		holdPrint(t, h)
		kind, n, status := bodied(h)
		wantBody(t, h, kind, n, status)
		wantCloses(t, h, closing(h))
		wantValues(t, h, folded(s), named(h, folded(s))...)
	}
}

// overlaps tells whether two texts share memory.
func overlaps(a, b string) bool {
	if a == "" || b == "" {
		return false
	}
	p, q := uintptr(unsafe.Pointer(unsafe.StringData(a))), uintptr(unsafe.Pointer(unsafe.StringData(b)))
	return p < q+uintptr(len(b)) && q < p+uintptr(len(a))
}

// R3: what is answered shares no memory with what was handed in.
func TestAnswersAreNew(t *testing.T) {
	s := string([]byte("GET /path HTTP/1.1\r\nhost: there\r\nX: value\r\n\r\n"))
	h, _, _ := head.Parse(s)
	all := []string{h.Method, h.Target}
	for _, f := range h.Fields {
		all = append(all, f.Name, f.Value)
	}
	for _, text := range all {
		if overlaps(text, s) {
			t.Errorf("Parse: %q lies in what was handed in", text)
		}
	}
	for _, value := range head.Values(h, "x") {
		if overlaps(value, h.Fields[1].Value) {
			t.Errorf("Values: %q lies in what was handed in", value)
		}
	}
}

// R3: lists that are handed in stay as they are, what lies behind their end is
// not read, and answers stay when others are changed.
func TestListsApart(t *testing.T) {
	whole := pairs("host", "a", "x", "1", "host", "b", "connection", "close", "content-length", "5")
	held := slices.Clone(whole)
	h := api.Head{Method: "GET", Target: "/", Minor: 1, Fields: whole[:2]}
	wantPrint(t, h, get+"host: a\r\nx: 1\r\n\r\n", api.OK)
	wantValues(t, h, "host", "a")
	wantBody(t, h, api.BodyNone, 0, 0)
	wantCloses(t, h, false)
	if !slices.Equal(whole, held) {
		t.Error(whole)
	}
	text := get + host + "x: 1\r\nx: 2\r\n" + end
	want := with(1, "host", "a", "x", "1", "x", "2")
	first, _, _ := head.Parse(text)
	second, _, _ := head.Parse(text)
	clear(first.Fields[:cap(first.Fields)])
	_ = append(first.Fields, pairs("y", "z")...)
	if !equal(second, want) {
		t.Error(second)
	}
	wantParse(t, text, want, 0, 0)
	values, again := head.Values(second, "x"), head.Values(second, "x")
	clear(values[:cap(values)])
	_ = append(values, "y")
	if !slices.Equal(again, []string{"1", "2"}) || !equal(second, want) {
		t.Error(again, second)
	}
	wantValues(t, second, "x", "1", "2")
}

// R4: the same again is answered likewise, whatever was asked between, and by
// many at one time.
func TestAgain(t *testing.T) {
	var all sync.WaitGroup
	shared := with(1, "host", "a", "connection", "x, Close", "content-length", "5")
	for worker := range 8 {
		all.Go(func() {
			from := rand.New(rand.NewSource(int64(worker)))
			for range 300 {
				h, _, _ := head.Parse(get + random(from, []string{host, "x: y\r\n", "x", end, "Connection: keep-alive\r\n"}, 50))
				head.Print(h)
				head.Closes(h)
				head.Body(h)
				wantParse(t, get+host+end, with(1, "host", "a"), 0, 0)
				wantRefused(t, get+"A b: c\r\n"+end, 400, 16)
				wantRefused(t, old+lines(33)+end, 431, len(old+lines(32)))
				wantPrint(t, with(0), old+end, api.OK)
				wantValues(t, shared, "Host", "a")
				wantBody(t, shared, api.BodyLength, 5, 0)
				wantCloses(t, shared, true)
			}
		})
	}
	all.Wait()
}
