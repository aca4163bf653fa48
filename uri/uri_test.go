package uri_test

import (
	"cloister/api"
	"cloister/uri"
	"encoding/hex"
	"fmt"
	"math/rand"
	"net/url"
	"regexp"
	"slices"
	"strings"
	"sync"
	"testing"
	"unsafe"
)

const plainBytes = "ABCDEFGHIJKLMNOPQRSTUVWXYZabcdefghijklmnopqrstuvwxyz0123456789-._~"

var (
	percent = regexp.MustCompile(`%[0-9A-Fa-f][0-9A-Fa-f]`)
	barred  = regexp.MustCompile(`[^!-~]|#`)
)

// pairs are those of names and values by turns.
func pairs(texts ...string) []api.Pair {
	var out []api.Pair
	for i := 0; i < len(texts); i += 2 {
		out = append(out, api.Pair{Name: texts[i], Value: texts[i+1]})
	}
	return out
}

// many are so many pairs, no two of them the same.
func many(count int) []api.Pair {
	var out []api.Pair
	for i := range count {
		out = append(out, api.Pair{Name: fmt.Sprint("n", i), Value: fmt.Sprint("v", i)})
	}
	return out
}

// allBytes is the text of all 256 bytes.
func allBytes() string {
	var out []byte
	for b := range 256 {
		out = append(out, byte(b))
	}
	return string(out)
}

// texts hands on all texts of at most so many of the pieces.
func texts(pieces []string, most int, take func(s string)) {
	take("")
	if most == 0 {
		return
	}
	for _, piece := range pieces {
		texts(pieces, most-1, func(s string) { take(piece + s) })
	}
}

// random is a text of at most so many of the pieces.
func random(from *rand.Rand, pieces []string, most int) string {
	var out strings.Builder
	for range from.Intn(most + 1) {
		out.WriteString(pieces[from.Intn(len(pieces))])
	}
	return out.String()
}

// decoded is what the document says of Decode, told by a pattern.
func decoded(s string, plus bool) (string, api.Errno, int) {
	for at := range len(s) {
		if s[at] == '%' && percent.FindString(s[at:min(at+3, len(s))]) == "" {
			return "", api.ErrUri, at
		}
	}
	var out strings.Builder
	from := 0
	copyTo := func(to int) {
		piece := s[from:to]
		if plus {
			piece = strings.ReplaceAll(piece, "+", " ")
		}
		out.WriteString(piece)
	}
	for _, found := range percent.FindAllStringIndex(s, -1) {
		copyTo(found[0])
		b, _ := hex.DecodeString(s[found[0]+1 : found[1]])
		out.Write(b)
		from = found[1]
	}
	copyTo(len(s))
	return out.String(), api.OK, 0
}

// formed is what the document says of Form: its parts one by one, with places.
func formed(s string) ([]api.Pair, api.Errno, int) {
	var out []api.Pair
	start := 0
	for _, part := range strings.Split(s, "&") {
		halves := append(strings.SplitN(part, "=", 2), "")
		name, e, at := decoded(halves[0], true)
		if e != api.OK {
			return nil, e, start + at
		}
		value, e, at := decoded(halves[1], true)
		if e != api.OK {
			return nil, e, start + len(halves[0]) + 1 + at
		}
		if part != "" {
			out = append(out, api.Pair{Name: name, Value: value})
		}
		start += len(part) + 1
	}
	if len(out) > 32 {
		return nil, api.ErrFull, 0
	}
	return out, api.OK, 0
}

// aimed is what the document says of Target.
func aimed(s string) (string, []api.Pair, api.Errno, int) {
	if len(s) > 1024 {
		return "", nil, api.ErrLong, 0
	}
	if s == "" || s[0] != '/' {
		return "", nil, api.ErrUri, 0
	}
	if found := barred.FindStringIndex(s); found != nil {
		return "", nil, api.ErrUri, found[0]
	}
	halves := strings.SplitN(s, "?", 2)
	path, e, at := decoded(halves[0], false)
	if e != api.OK {
		return "", nil, e, at
	}
	if len(halves) == 1 {
		return path, nil, api.OK, 0
	}
	query, e, at := formed(halves[1])
	if e == api.ErrUri {
		at += len(halves[0]) + 1
	}
	if e != api.OK {
		return "", nil, e, at
	}
	return path, query, api.OK, 0
}

// baked is what the document says of Cookies.
func baked(s string) []api.Pair {
	var out []api.Pair
	for _, part := range strings.Split(s, ";") {
		for part != "" && strings.Contains(" \t", part[:1]) {
			part = part[1:]
		}
		for part != "" && strings.Contains(" \t", part[len(part)-1:]) {
			part = part[:len(part)-1]
		}
		if at := strings.Index(part, "="); at >= 0 && len(out) < 32 {
			out = append(out, api.Pair{Name: part[:at], Value: part[at+1:]})
		}
	}
	return out
}

func wantDecode(t *testing.T, s string, plus bool, want string, wantE api.Errno, wantAt int) {
	t.Helper()
	if got, e, at := uri.Decode(s, plus); got != want || e != wantE || at != wantAt {
		t.Errorf("Decode(%q, %v): %q %v %d, not %q %v %d", s, plus, got, e, at, want, wantE, wantAt)
	}
}

func wantForm(t *testing.T, s string, want []api.Pair, wantE api.Errno, wantAt int) {
	t.Helper()
	if got, e, at := uri.Form(s); !slices.Equal(got, want) || e != wantE || at != wantAt {
		t.Errorf("Form(%q): %q %v %d, not %q %v %d", s, got, e, at, want, wantE, wantAt)
	}
}

func wantTarget(t *testing.T, s, wantPath string, want []api.Pair, wantE api.Errno, wantAt int) {
	t.Helper()
	if path, query, e, at := uri.Target(s); path != wantPath || !slices.Equal(query, want) || e != wantE || at != wantAt {
		t.Errorf("Target(%q): %q %q %v %d, not %q %q %v %d", s, path, query, e, at, wantPath, want, wantE, wantAt)
	}
}

func wantCookies(t *testing.T, s string, want []api.Pair) {
	t.Helper()
	if got := uri.Cookies(s); !slices.Equal(got, want) {
		t.Errorf("Cookies(%q): %q, not %q", s, got, want)
	}
}

func TestExamples(t *testing.T) {
	if got := uri.Encode("a b/\u00e9"); got != "a%20b%2F%C3%A9" {
		t.Error(got)
	}
	wantDecode(t, "%4a+%", true, "", api.ErrUri, 4)
	wantForm(t, "a=1&&b&c=%3D", pairs("a", "1", "b", "", "c", "="), api.OK, 0)
	wantTarget(t, "/x%20y?q=1", "/x y", pairs("q", "1"), api.OK, 0)
	wantTarget(t, "x", "", nil, api.ErrUri, 0)
	wantCookies(t, "sid=ab; x ;y=1=2", pairs("sid", "ab", "y", "1=2"))
}

func TestNumbers(t *testing.T) {
	if api.ErrUri != 60 || api.ErrLong != 4 || api.ErrFull != 2 || api.MaxLine != 1024 || api.MaxFields != 32 {
		t.Error("errors or limits")
	}
}

// Ur1: every text of two bytes behind a %, and what stands for one byte.
func TestDecodeAllSigns(t *testing.T) {
	right := 0
	for a := range 256 {
		for b := range 256 {
			s := string([]byte{'%', byte(a), byte(b)})
			for _, plus := range []bool{false, true} {
				byHand, err := hex.DecodeString(s[1:])
				if err != nil {
					wantDecode(t, s, plus, "", api.ErrUri, 0)
					continue
				}
				right++
				wantDecode(t, s, plus, string(byHand), api.OK, 0)
				wantDecode(t, "x"+s+"0"+s, plus, "x"+string(byHand)+"0"+string(byHand), api.OK, 0)
			}
		}
	}
	if right != 2*22*22 {
		t.Error(right, "signs are right")
	}
}

func TestDecodeBytesAsTheyAre(t *testing.T) {
	for b := range 256 {
		s := string([]byte{byte(b)})
		switch s {
		case "%":
			wantDecode(t, s, false, "", api.ErrUri, 0)
			wantDecode(t, s, true, "", api.ErrUri, 0)
		case "+":
			wantDecode(t, s, false, "+", api.OK, 0)
			wantDecode(t, s, true, " ", api.OK, 0)
		default:
			wantDecode(t, s, false, s, api.OK, 0)
			wantDecode(t, s, true, s, api.OK, 0)
		}
	}
	for _, plus := range []bool{false, true} {
		wantDecode(t, "", plus, "", api.OK, 0)
		wantDecode(t, "a%2Bb%2b", plus, "a+b+", api.OK, 0)
		wantDecode(t, "%c3%A9\xc3\xa9\x00%00", plus, "\u00e9\u00e9\x00\x00", api.OK, 0)
		wantDecode(t, "%2541%25", plus, "%41%", api.OK, 0)
	}
	wantDecode(t, "+a++b+", true, " a  b ", api.OK, 0)
	wantDecode(t, "+a++b+", false, "+a++b+", api.OK, 0)
}

func TestDecodeWrongSigns(t *testing.T) {
	for _, wrong := range []struct {
		s  string
		at int
	}{
		{"%", 0}, {"%4", 0}, {"%f", 0}, {"%G", 0}, {"%4G", 0}, {"%G4", 0}, {"%%", 0}, {"%%41", 0}, {"%4%41", 0}, {"% 41", 0}, {"%+1", 0}, {"%-1", 0}, {"%0x", 0}, {"%x0", 0},
		{"a%", 1}, {"ab%4", 2}, {"%41%", 3}, {"%41%4", 3}, {"%41%41%4g", 6}, {"abc%zz%", 3}, {"++%zz", 2}, {"%25%", 3}, {"%2541%", 5},
		{"%41%\xff\xff", 3}, {"\xff%4\xff", 1}, {"\u00e9%", 2}, {"%\uff11\uff11", 0}, {"a%zz%41%", 1}, {"%41%zz%yy%", 3}, {"%4 %41", 0}, {"%\x00\x00", 0},
		{strings.Repeat("x", 5000) + "%1", 5000}, {strings.Repeat("%41", 5000) + "%", 15000},
	} {
		wantDecode(t, wrong.s, false, "", api.ErrUri, wrong.at)
		wantDecode(t, wrong.s, true, "", api.ErrUri, wrong.at)
	}
}

// What lies behind a text's end in memory is no digit of it.
func TestDecodeEndsWithItsText(t *testing.T) {
	whole := "a%41&b=%42"
	wantDecode(t, whole[:2], true, "", api.ErrUri, 1)
	wantDecode(t, whole[:3], true, "", api.ErrUri, 1)
	wantDecode(t, whole[:4], true, "aA", api.OK, 0)
	wantForm(t, whole[:9], nil, api.ErrUri, 7)
	wantForm(t, whole[:10], pairs("aA", "", "b", "B"), api.OK, 0)
	wantTarget(t, "/%41"[:3], "", nil, api.ErrUri, 1)
	wantTarget(t, "/?%41"[:4], "", nil, api.ErrUri, 2)
}

func TestDecodeAgainstPattern(t *testing.T) {
	hold := func(s string) {
		for _, plus := range []bool{false, true} {
			want, e, at := decoded(s, plus)
			wantDecode(t, s, plus, want, e, at)
		}
	}
	texts([]string{"%", "4", "a", "F", "g", "+", "\xff"}, 6, hold)
	from := rand.New(rand.NewSource(1))
	for range 20000 {
		hold(random(from, []string{"%", "%41", "%fF", "%2b", "%25", "+", "0", "a", "G", "\x80", "\u00e9", "&", "="}, 12))
	}
}

func TestEncode(t *testing.T) {
	for b := range 256 {
		s := string([]byte{byte(b)})
		want := fmt.Sprintf("%%%02X", b)
		if strings.Contains(plainBytes, s) {
			want = s
		}
		if got := uri.Encode(s); got != want {
			t.Errorf("Encode(%q): %q, not %q", s, got, want)
		}
		if got := uri.Encode("x" + s + s + "%"); got != "x"+want+want+"%25" {
			t.Errorf("Encode of two %q: %q", s, got)
		}
	}
	for s, want := range map[string]string{
		"": "", plainBytes: plainBytes, " ": "%20", "+": "%2B", "%": "%25", "%41": "%2541", "a=b&c": "a%3Db%26c",
		"/x?y#z": "%2Fx%3Fy%23z", "\x00\xff": "%00%FF", "\u00e9": "%C3%A9", "*'()!": "%2A%27%28%29%21",
	} {
		if got := uri.Encode(s); got != want {
			t.Errorf("Encode(%q): %q, not %q", s, got, want)
		}
	}
}

// Ur4: there and back; another reader of percent signs reads them likewise.
func TestDecodeOfEncode(t *testing.T) {
	hold := func(s string) {
		t.Helper()
		code := uri.Encode(s)
		wantDecode(t, code, false, s, api.OK, 0)
		wantDecode(t, code, true, s, api.OK, 0)
		if other, err := url.QueryUnescape(code); other != s || err != nil {
			t.Errorf("%q is read as %q by others: %v", code, other, err)
		}
		if strings.Trim(code, plainBytes+"%") != "" || strings.ToUpper(strings.Join(percent.FindAllString(code, -1), "")) != strings.Join(percent.FindAllString(code, -1), "") {
			t.Errorf("Encode(%q): %q", s, code)
		}
	}
	hold("")
	hold(allBytes())
	hold(strings.Repeat(allBytes(), 300))
	for a := range 256 {
		hold(string([]byte{byte(a)}))
		for b := range 256 {
			hold(string([]byte{byte(a), byte(b)}))
		}
	}
	texts([]string{"%", "4", "+", " ", "\xc3"}, 6, hold)
}

// Ur2: parts that are empty, without =, with several.
func TestForm(t *testing.T) {
	for _, right := range []struct {
		s    string
		want []api.Pair
	}{
		{"", nil}, {"&", nil}, {"&&&", nil},
		{"a", pairs("a", "")}, {"a=", pairs("a", "")}, {"=a", pairs("", "a")}, {"=", pairs("", "")}, {"==", pairs("", "=")}, {"a==b", pairs("a", "=b")}, {"a=b=c=", pairs("a", "b=c=")},
		{"&a=1", pairs("a", "1")}, {"a=1&", pairs("a", "1")}, {"&&a=1&&&b=2&&", pairs("a", "1", "b", "2")}, {"=&=", pairs("", "", "", "")},
		{"a=1&a=2&a=1", pairs("a", "1", "a", "2", "a", "1")}, {"b=1&a=2", pairs("b", "1", "a", "2")},
		{"a+b=c+d", pairs("a b", "c d")}, {"+=+", pairs(" ", " ")}, {"a%2Bb=%2b", pairs("a+b", "+")}, {"+", pairs(" ", "")},
		{"a%3Db=c%3dd", pairs("a=b", "c=d")}, {"a%26b=c%26", pairs("a&b", "c&")}, {"%26&%3D", pairs("&", "", "=", "")}, {"%00=%fF", pairs("\x00", "\xff")},
		{"a;b=c", pairs("a;b", "c")}, {" a = b ", pairs(" a ", " b ")}, {"a?b#=/", pairs("a?b#", "/")}, {"\xc3\xa9=\xff\x00\n", pairs("\xc3\xa9", "\xff\x00\n")},
		{"%3D", pairs("=", "")}, {"%25=%2541", pairs("%", "%41")},
	} {
		wantForm(t, right.s, right.want, api.OK, 0)
	}
}

// Places in names and values of the first part, of later ones, behind empty
// ones; the first of several.
func TestFormWrongSigns(t *testing.T) {
	for _, wrong := range []struct {
		s  string
		at int
	}{
		{"%", 0}, {"a%", 1}, {"a=%", 2}, {"a=b%4", 3}, {"%=%", 0}, {"%4=1", 0}, {"%4&1", 0}, {"%&41", 0}, {"%=41", 0}, {"a=%4&1=2", 2}, {"%%&%", 0},
		{"a=1&%=2", 4}, {"a=1&b%zz=2", 5}, {"a=1&b=%", 6}, {"a=1&b=2%0", 7}, {"a=1&&&b=%gg", 8}, {"&&%", 2}, {"%41=%42&%43=%44&%45%=1", 19}, {"%41=%42&%43=%44%", 15},
		{"a=1&b=%zz&c=%zz", 6}, {"a=1&b=2&c=%zz&%", 10}, {"a%=1&b%=2", 1}, {"a=%25%&%", 5}, {"a=b=%", 4}, {"=%", 1}, {"+=+&+=+%", 7},
	} {
		wantForm(t, wrong.s, nil, api.ErrUri, wrong.at)
	}
}

func TestFormOfManyPairs(t *testing.T) {
	for _, count := range []int{1, 2, 31, 32} {
		wantForm(t, uri.Print(many(count)), many(count), api.OK, 0)
	}
	for _, count := range []int{33, 34, 64, 65, 1000} {
		wantForm(t, uri.Print(many(count)), nil, api.ErrFull, 0)
	}
	// Empty parts are no pairs, so they do not count; pairs without a text do.
	wantForm(t, strings.Repeat("&", 1000)+uri.Print(many(32))+strings.Repeat("&", 1000), many(32), api.OK, 0)
	wantForm(t, strings.ReplaceAll(uri.Print(many(32)), "&", "&&&"), many(32), api.OK, 0)
	wantForm(t, strings.Repeat("=&", 32), make([]api.Pair, 32), api.OK, 0)
	wantForm(t, strings.Repeat("=&", 33), nil, api.ErrFull, 0)
	wantForm(t, strings.Repeat("a&", 33), nil, api.ErrFull, 0)
	// One name so often is so many pairs.
	wantForm(t, strings.Repeat("a=1&", 33), nil, api.ErrFull, 0)
}

// A wrong sign counts ahead of too many pairs, wherever it stands.
func TestFormFullAndWrong(t *testing.T) {
	for _, count := range []int{32, 33, 34, 100} {
		for at := range count {
			list := strings.Split(uri.Print(many(count)), "&")
			ahead := len(strings.Join(list[:at], "&"))
			if at > 0 {
				ahead++
			}
			for _, wrong := range []struct {
				part string
				at   int
			}{{"%", 0}, {"a=%", 2}, {"ab%4g=1", 2}} {
				list[at] = wrong.part
				wantForm(t, strings.Join(list, "&"), nil, api.ErrUri, ahead+wrong.at)
			}
		}
	}
	wantForm(t, strings.Repeat("a&", 33)+"&&%4", nil, api.ErrUri, 68)
}

func TestFormAgainstParts(t *testing.T) {
	hold := func(s string) {
		want, e, at := formed(s)
		wantForm(t, s, want, e, at)
	}
	texts([]string{"%", "4", "a", "+", "&", "="}, 6, hold)
	from := rand.New(rand.NewSource(2))
	pieces := []string{"&", "&", "=", "a", "b", "+", "%3D", "%26", "%2b", "\xff", "%41"}
	for range 20000 {
		hold(random(from, pieces, 20))
		hold(random(from, pieces, 150))
		hold(random(from, append(pieces, pieces...), 100) + "%" + random(from, pieces, 20))
	}
}

func TestPrint(t *testing.T) {
	for _, right := range []struct {
		l    []api.Pair
		want string
	}{
		{nil, ""}, {[]api.Pair{}, ""}, {pairs("", ""), "="}, {pairs("", "", "", ""), "=&="}, {pairs("a", ""), "a="}, {pairs("", "a"), "=a"}, {pairs("a", "1", "b", "2"), "a=1&b=2"},
		{pairs("a b", "c+d"), "a%20b=c%2Bd"}, {pairs("=", "&"), "%3D=%26"}, {pairs("%", "%41"), "%25=%2541"}, {pairs("\xc3\xa9", "\x00\xff"), "%C3%A9=%00%FF"}, {pairs("a", "1", "a", "1"), "a=1&a=1"},
		{pairs(plainBytes, plainBytes), plainBytes + "=" + plainBytes},
	} {
		if got := uri.Print(right.l); got != right.want {
			t.Errorf("Print(%q): %q, not %q", right.l, got, right.want)
		}
	}
	for _, count := range []int{33, 1000} {
		if got := uri.Print(many(count)); strings.Count(got, "&") != count-1 || strings.Count(got, "=") != count || !strings.HasSuffix(got, fmt.Sprint("&n", count-1, "=v", count-1)) {
			t.Errorf("Print of %d pairs: %q", count, got)
		}
	}
}

// Ur4: the pairs there and back; more than MaxFields are not read.
func TestFormOfPrint(t *testing.T) {
	pieces := []string{"", "=", "&", "%", "+", " ", "a", "%41", "\x00", "\xff", "a=b", "a&b", allBytes()}
	for _, name := range pieces {
		for _, value := range pieces {
			for _, l := range [][]api.Pair{pairs(name, value), pairs(name, value, value, name), pairs("", "", name, value, "", "")} {
				wantForm(t, uri.Print(l), l, api.OK, 0)
			}
		}
	}
	from := rand.New(rand.NewSource(3))
	for range 2000 {
		var l []api.Pair
		for range from.Intn(40) {
			l = append(l, api.Pair{Name: random(from, pieces, 3), Value: random(from, pieces, 3)})
		}
		if len(l) > 32 {
			wantForm(t, uri.Print(l), nil, api.ErrFull, 0)
		} else {
			wantForm(t, uri.Print(l), l, api.OK, 0)
		}
	}
	wantForm(t, uri.Print(make([]api.Pair, 32)), make([]api.Pair, 32), api.OK, 0)
}

func TestGet(t *testing.T) {
	l := pairs("a", "1", "b", "2", "a", "3", "", "4", "b", "", "", "5", "A", "6", "empty", "")
	for _, asked := range []struct {
		name, want string
		there      bool
	}{
		{"a", "1", true}, {"b", "2", true}, {"", "4", true}, {"A", "6", true}, {"empty", "", true},
		{"c", "", false}, {"B", "", false}, {"1", "", false}, {"a ", "", false}, {"empt", "", false}, {"a\x00", "", false},
	} {
		if got, there := uri.Get(l, asked.name); got != asked.want || there != asked.there {
			t.Errorf("Get %q: %q %v", asked.name, got, there)
		}
	}
	for _, l := range [][]api.Pair{nil, {}} {
		for _, name := range []string{"", "a"} {
			if got, there := uri.Get(l, name); got != "" || there {
				t.Errorf("Get %q of none: %q %v", name, got, there)
			}
		}
	}
	for i, p := range many(1000) {
		if got, there := uri.Get(many(1000), p.Name); got != p.Value || !there {
			t.Fatal(i, got, there)
		}
	}
}

// Ur3: no ?, one, several; + in the path and in the query.
func TestTarget(t *testing.T) {
	for _, right := range []struct {
		s, path string
		query   []api.Pair
	}{
		{"/", "/", nil}, {"/?", "/", nil}, {"/a/b", "/a/b", nil}, {"//", "//", nil}, {"/../.", "/../.", nil}, {"/?&&", "/", nil},
		{"/?a=1&b", "/", pairs("a", "1", "b", "")}, {"/x?a?b=c?d", "/x", pairs("a?b", "c?d")}, {"/??", "/", pairs("?", "")}, {"/?a=/?&?=1", "/", pairs("a", "/?", "?", "1")},
		{"/a+b?a+b=c+d", "/a+b", pairs("a b", "c d")}, {"/%2b%2B?%2b", "/++", pairs("+", "")},
		{"/%3f?%3F=1", "/?", pairs("?", "1")}, {"/%23?%23", "/#", pairs("#", "")}, {"/%00%20%ff", "/\x00 \xff", nil}, {"/%2541", "/%41", nil}, {"/%2F", "//", nil},
		{"/a=b&c", "/a=b&c", nil}, {"/!~$;:@,'\"<>[]{}|\\^`", "/!~$;:@,'\"<>[]{}|\\^`", nil}, {"/a=b?c", "/a=b", pairs("c", "")},
	} {
		wantTarget(t, right.s, right.path, right.query, api.OK, 0)
	}
}

func TestTargetBytes(t *testing.T) {
	for b := range 256 {
		s := string([]byte{byte(b)})
		if b == '%' || b == '?' {
			continue
		}
		if b < 33 || b > 126 || b == '#' {
			wantTarget(t, "/"+s, "", nil, api.ErrUri, 1)
			wantTarget(t, "/abc"+s+"d", "", nil, api.ErrUri, 4)
			wantTarget(t, "/abc?d="+s, "", nil, api.ErrUri, 7)
			// Ahead of a wrong percent sign, and behind one.
			wantTarget(t, "/a"+s+"%", "", nil, api.ErrUri, 2)
			wantTarget(t, "/a%"+s, "", nil, api.ErrUri, 3)
			wantTarget(t, "/%zz?%zz="+s, "", nil, api.ErrUri, 9)
			wantTarget(t, "/"+strings.Repeat("?a&", 40)+s, "", nil, api.ErrUri, 121)
			// Of several the first one.
			wantTarget(t, "/ab"+s+"#"+s+" ", "", nil, api.ErrUri, 3)
		} else {
			wantTarget(t, "/x"+s, "/x"+s, nil, api.OK, 0)
		}
		if b != '/' {
			wantTarget(t, s, "", nil, api.ErrUri, 0)
			wantTarget(t, s+"/", "", nil, api.ErrUri, 0)
		}
	}
	for _, s := range []string{"", "x", "x y", "x#", "#", "#/", " /", "?", "?/", "?a=1", "*", "%", "%2F", "%2fx", "a%", "http://a/", "a/\x00", "\u00e9", strings.Repeat("x", 1024)} {
		wantTarget(t, s, "", nil, api.ErrUri, 0)
	}
	wantTarget(t, "/\u00e9", "", nil, api.ErrUri, 1)
	wantTarget(t, "/ab\r\n", "", nil, api.ErrUri, 3)
}

func TestTargetLength(t *testing.T) {
	long := "/" + strings.Repeat("x", 1023)
	wantTarget(t, long, long, nil, api.OK, 0)
	wantTarget(t, long+"x", "", nil, api.ErrLong, 0)
	signs := "/" + strings.Repeat("%41", 341)
	wantTarget(t, signs, "/"+strings.Repeat("A", 341), nil, api.OK, 0)
	wantTarget(t, signs+"x", "", nil, api.ErrLong, 0)
	query := "/?" + strings.Repeat("&", 1022)
	wantTarget(t, query, "/", nil, api.OK, 0)
	wantTarget(t, query+"&", "", nil, api.ErrLong, 0)
	wantTarget(t, long[:1022]+"?a", long[:1022], pairs("a", ""), api.OK, 0)
	wantTarget(t, long[:1023]+"#", "", nil, api.ErrUri, 1023)
	wantTarget(t, long[:1023]+"%", "", nil, api.ErrUri, 1023)
	wantTarget(t, long[:1022]+"?%", "", nil, api.ErrUri, 1023)
	// That it is long counts ahead of all else.
	for _, s := range []string{
		strings.Repeat("x", 1025), "/#" + long, "/%" + long, " " + long, "/?%" + long, "/?" + strings.Repeat("a&", 600), strings.Repeat("\x00", 1<<16), strings.Repeat("/", 1<<20),
	} {
		wantTarget(t, s, "", nil, api.ErrLong, 0)
	}
}

// What the path and the query refuse, with the place in the target.
func TestTargetWrongSigns(t *testing.T) {
	for _, wrong := range []struct {
		s  string
		at int
	}{
		{"/%", 1}, {"/a%4", 2}, {"/%41%4g", 4}, {"/%?41", 1}, {"/%4?1", 1}, {"/%zz?%zz", 1}, {"/%zz?a=1", 1}, {"/a%?b=%", 2},
		{"/?%", 2}, {"/abc?%4", 5}, {"/?a=%", 4}, {"/?a=1&%zz=1", 6}, {"/?a=1&b=%zz", 8}, {"/?a=1&b=%zz&%", 8}, {"/%41?%41=%42&b=%4", 15}, {"/a?b?%", 5}, {"/a?&&c=d&%", 9}, {"/???%%", 4},
	} {
		wantTarget(t, wrong.s, "", nil, api.ErrUri, wrong.at)
	}
}

func TestTargetOfManyPairs(t *testing.T) {
	wantTarget(t, "/x?"+uri.Print(many(32)), "/x", many(32), api.OK, 0)
	wantTarget(t, "/x?"+uri.Print(many(33)), "", nil, api.ErrFull, 0)
	wantTarget(t, "/?"+strings.Repeat("a&", 33), "", nil, api.ErrFull, 0)
	wantTarget(t, "/xy?"+strings.Repeat("a&", 33)+"%", "", nil, api.ErrUri, 70)
	wantTarget(t, "/x%?"+strings.Repeat("a&", 33), "", nil, api.ErrUri, 2)
	wantTarget(t, "/"+strings.Repeat("a&", 33), "/"+strings.Repeat("a&", 33), nil, api.OK, 0)
}

func TestTargetAgainstRule(t *testing.T) {
	hold := func(s string) {
		path, query, e, at := aimed(s)
		wantTarget(t, s, path, query, e, at)
	}
	texts([]string{"/", "%", "4", "?", "#", "&", " ", "+"}, 5, hold)
	texts([]string{"%", "4", "?", "=", "&"}, 6, func(s string) { hold("/" + s) })
	from := rand.New(rand.NewSource(4))
	pieces := []string{"/", "?", "&", "&", "=", "a", "b", "+", "%3F", "%23", "%2b", "%41"}
	rare := append(slices.Repeat(pieces, 6), "%", "#", "\xff", " ", "\x7f", "%4")
	for range 20000 {
		hold("/" + random(from, pieces, 30))
		hold("/" + random(from, rare, 30))
		hold("/?" + random(from, rare, 200))
	}
	for range 500 {
		hold("/" + random(from, pieces, 1100))
	}
}

// Ur3: blanks and tabs around, without =, with several.
func TestCookies(t *testing.T) {
	for _, right := range []struct {
		s    string
		want []api.Pair
	}{
		{"", nil}, {";", nil}, {";;;", nil}, {" ", nil}, {" ; \t;", nil}, {"a", nil}, {"a;b", nil}, {"a; b c ;", nil},
		{"a=1", pairs("a", "1")}, {"a=", pairs("a", "")}, {"=1", pairs("", "1")}, {"=", pairs("", "")}, {"==", pairs("", "=")}, {"a=b=c=", pairs("a", "b=c=")}, {" = ", pairs("", "")},
		{"a=1;b=2", pairs("a", "1", "b", "2")}, {"a=1; b=2", pairs("a", "1", "b", "2")}, {" \t a=1\t \t;\t\tb=2  ", pairs("a", "1", "b", "2")}, {"a=1 ;x; b=2;y", pairs("a", "1", "b", "2")},
		{"a = 1", pairs("a ", " 1")}, {" a\t=\t1 ", pairs("a\t", "\t1")}, {"a b=c d", pairs("a b", "c d")}, {"a= ", pairs("a", "")}, {" =a", pairs("", "a")}, {"a= =", pairs("a", " =")},
		{"a=1;a=2;a=1", pairs("a", "1", "a", "2", "a", "1")}, {"b=1;a=2", pairs("b", "1", "a", "2")}, {"=;=", pairs("", "", "", "")}, {"Sid=Ab", pairs("Sid", "Ab")},
		{"a=%41+b", pairs("a", "%41+b")}, {"%41=%", pairs("%41", "%")}, {"a=\"x\"", pairs("a", "\"x\"")}, {"a=1,b=2", pairs("a", "1,b=2")}, {"a=1&b=2", pairs("a", "1&b=2")},
		{"\r\na=1\n", pairs("\r\na", "1\n")}, {"\va=1\f", pairs("\va", "1\f")}, {"\u00a0a=1\u00a0", pairs("\u00a0a", "1\u00a0")}, {"\xff=\x00\x80", pairs("\xff", "\x00\x80")}, {"\x00a=1\x00", pairs("\x00a", "1\x00")},
	} {
		wantCookies(t, right.s, right.want)
	}
}

func TestManyCookies(t *testing.T) {
	all := strings.ReplaceAll(uri.Print(many(100)), "&", "; ")
	wantCookies(t, all, many(32))
	for _, count := range []int{31, 32, 33} {
		wantCookies(t, strings.ReplaceAll(uri.Print(many(count)), "&", ";"), many(min(count, 32)))
	}
	// Parts without = do not count.
	wantCookies(t, strings.Repeat("x;", 100)+all, many(32))
	wantCookies(t, strings.ReplaceAll(all, ";", ";x;;y;"), many(32))
	wantCookies(t, strings.Repeat("=;", 40), make([]api.Pair, 32))
}

func TestCookiesAgainstRule(t *testing.T) {
	hold := func(s string) { wantCookies(t, s, baked(s)) }
	texts([]string{" ", "\t", ";", "=", "a", "\xff"}, 6, hold)
	from := rand.New(rand.NewSource(5))
	for range 20000 {
		hold(random(from, []string{" ", "\t", ";", ";", "=", "=", "a", "b", "\n", "\x00", "%41", "+"}, 200))
	}
}

// R1 and R2: whatever a text is, each call ends, and beside an error there is
// nothing else.
func TestAnyBytes(t *testing.T) {
	from := rand.New(rand.NewSource(6))
	for range 20000 {
		raw := make([]byte, from.Intn(60))
		from.Read(raw)
		for i := range raw {
			if from.Intn(3) == 0 {
				raw[i] = "%&=?;/+ #4a"[from.Intn(11)]
			}
		}
		s := string(raw)
		for _, plus := range []bool{false, true} {
			want, e, at := decoded(s, plus)
			wantDecode(t, s, plus, want, e, at)
		}
		want, e, at := formed(s)
		wantForm(t, s, want, e, at)
		path, want, e, at := aimed(s)
		wantTarget(t, s, path, want, e, at)
		wantCookies(t, s, baked(s))
		wantDecode(t, uri.Encode(s), true, s, api.OK, 0)
	}
}

func TestLongTexts(t *testing.T) {
	long := strings.Repeat("a b&", 1<<19)
	code := uri.Encode(long)
	wantDecode(t, code, true, long, api.OK, 0)
	if l, e, at := uri.Form(long); l != nil || e != api.ErrFull || at != 0 {
		t.Error(len(l), e, at)
	}
	if l, e, at := uri.Form(long + "%"); l != nil || e != api.ErrUri || at != len(long) {
		t.Error(len(l), e, at)
	}
	if l, e, at := uri.Form("v=" + code); len(l) != 1 || l[0].Value != long || e != api.OK || at != 0 {
		t.Error(len(l), e, at)
	}
	if l := uri.Cookies(strings.Repeat("; a", 1<<20) + "; k=" + code); len(l) != 1 || l[0].Value != code {
		t.Error(len(l))
	}
	if l, e, _ := uri.Form(strings.Repeat("&", 1<<22)); len(l) != 0 || e != api.OK {
		t.Error(len(l), e)
	}
}

// overlaps tells whether two texts share memory.
func overlaps(a, b string) bool {
	if a == "" || b == "" {
		return false
	}
	p, q := uintptr(unsafe.Pointer(unsafe.StringData(a))), uintptr(unsafe.Pointer(unsafe.StringData(b)))
	return p < q+uintptr(len(b)) && q < p+uintptr(len(a))
}

// R3: what is answered shares no memory with what was handed in.
func TestAnswersAreNew(t *testing.T) {
	heap := func(s string) string { return string(append([]byte(nil), s...)) }
	apart := func(what, s string, l []api.Pair, texts ...string) {
		t.Helper()
		for _, p := range l {
			texts = append(texts, p.Name, p.Value)
		}
		for _, text := range texts {
			if overlaps(text, s) {
				t.Errorf("%s: %q lies in what was handed in", what, text)
			}
		}
	}
	s := heap("long")
	got, _, _ := uri.Decode(s, true)
	apart("Decode", s, nil, got, uri.Encode(s))
	s = heap("name=value&other=text")
	l, _, _ := uri.Form(s)
	apart("Form", s, l)
	s = heap("/path?name=value&other=text")
	path, l, _, _ := uri.Target(s)
	apart("Target", s, l, path)
	s = heap("/path")
	path, _, _, _ = uri.Target(s)
	apart("Target", s, nil, path)
	s = heap("name=value; other=text")
	apart("Cookies", s, uri.Cookies(s))
	s = heap("value")
	got, _ = uri.Get(pairs("name", s), "name")
	apart("Get", s, nil, got)
}

// R3: lists that are handed in stay as they are, with what lies behind their
// end; answers stay when others are changed.
func TestListsApart(t *testing.T) {
	whole := pairs("a", "1", "b", "2", "c", "3", "d", "4")
	held := slices.Clone(whole)
	if got := uri.Print(whole[:2]); got != "a=1&b=2" {
		t.Error(got)
	}
	if got, there := uri.Get(whole[:2], "c"); got != "" || there {
		t.Error(got, there)
	}
	if got, there := uri.Get(whole[1:2], "a"); got != "" || there {
		t.Error(got, there)
	}
	if !slices.Equal(whole, held) {
		t.Error(whole)
	}
	for what, ask := range map[string]func() []api.Pair{
		"Form":    func() []api.Pair { l, _, _ := uri.Form("a=1&b=2&c=3"); return l },
		"Target":  func() []api.Pair { _, l, _, _ := uri.Target("/?a=1&b=2&c=3"); return l },
		"Cookies": func() []api.Pair { return uri.Cookies("a=1;b=2;c=3") },
	} {
		first, second := ask(), ask()
		clear(first[:cap(first)])
		_ = append(first, pairs("x", "y", "z", "")...)
		if want := pairs("a", "1", "b", "2", "c", "3"); !slices.Equal(second, want) || !slices.Equal(ask(), want) {
			t.Errorf("%s: %q %q", what, second, ask())
		}
	}
}

// R4: the same again is answered likewise, whatever was asked between, and by
// many at one time.
func TestAgain(t *testing.T) {
	var all sync.WaitGroup
	for worker := range 8 {
		all.Go(func() {
			from := rand.New(rand.NewSource(int64(worker)))
			for range 500 {
				uri.Form(random(from, []string{"%", "a", "=", "&"}, 80))
				uri.Target(random(from, []string{"%", "/", "?", "&"}, 80))
				uri.Cookies(random(from, []string{"=", ";"}, 80))
				wantDecode(t, "%4a+%", true, "", api.ErrUri, 4)
				wantForm(t, "a=1&&b&c=%3D", pairs("a", "1", "b", "", "c", "="), api.OK, 0)
				wantForm(t, uri.Print(many(33)), nil, api.ErrFull, 0)
				wantTarget(t, "/x%20y?q=1", "/x y", pairs("q", "1"), api.OK, 0)
				wantCookies(t, "sid=ab; x ;y=1=2", pairs("sid", "ab", "y", "1=2"))
			}
		})
	}
	all.Wait()
}
