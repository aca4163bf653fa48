package sha_test

import (
	"cloister/api"
	"cloister/sha"
	"crypto/sha256"
	"encoding/hex"
	"strconv"
	"strings"
	"sync"
	"testing"
)

// edges are the lengths at which the end of a text comes to lie otherwise in
// its last block, and some beyond.
var edges = []int{0, 1, 2, 3, 4, 54, 55, 56, 57, 62, 63, 64, 65, 118, 119, 120, 121, 127, 128, 129, 183, 184, 191, 192, 193, 1000, 4095, 4096, 4097}

// digest is what the library says, by no code of the package.
func digest(s string) string {
	d := sha256.Sum256([]byte(s))
	return string(d[:])
}

// text is one of that length, whose bytes are of all kinds: 0 and above 127 too.
func text(length, seed int) string {
	out := make([]byte, length)
	for i := range out {
		seed = (seed*1103515245 + 12345) & (1<<31 - 1)
		out[i] = byte(seed >> 16)
	}
	return string(out)
}

// stands holds against a hash what it should tell of itself, twice, since
// asking must not change it.
func stands(t *testing.T, what string, h *sha.Hash, taken string) {
	t.Helper()
	for range 2 {
		if got, want := h.Sum(), digest(taken); got != want {
			t.Errorf("%s: Sum %x, not %x", what, got, want)
		}
		if h.Len() != len(taken) {
			t.Errorf("%s: Len %d, not %d", what, h.Len(), len(taken))
		}
	}
}

// taking is a hash that has taken the parts.
func taking(parts ...string) *sha.Hash {
	h := sha.New()
	for _, part := range parts {
		h.Write(part)
	}
	return h
}

func TestExamples(t *testing.T) {
	if got := sha.Hex(sha.Sum("")); got != "e3b0c44298fc1c149afbf4c8996fb92427ae41e4649b934ca495991b7852b855" {
		t.Error(got)
	}
	if got := sha.Hex(sha.Sum("abc")); got != "ba7816bf8f01cfea414140de5dae2223b00361a396177a9cb410ff61f20015ad" {
		t.Error(got)
	}
	for _, s := range []string{"0G", "0"} {
		if got, e := sha.Unhex(s); got != "" || e != api.ErrHex {
			t.Errorf("Unhex(%q): %q %v", s, got, e)
		}
	}
	if got, e := sha.Salted("s", "w"); got != sha.Hex(sha.Sum("\x01sw")) || e != api.OK {
		t.Error(got, e)
	}
}

// Digests that others have told: of no code that this machine has.
func TestKnownDigests(t *testing.T) {
	for _, known := range []struct{ text, digits string }{
		{"", "e3b0c44298fc1c149afbf4c8996fb92427ae41e4649b934ca495991b7852b855"},
		{"a", "ca978112ca1bbdcafac231b39a23dc4da786eff8147c4e72b9807785afee48bb"},
		{"abc", "ba7816bf8f01cfea414140de5dae2223b00361a396177a9cb410ff61f20015ad"},
		{"abcdbcdecdefdefgefghfghighijhijkijkljklmklmnlmnomnopnopq", "248d6a61d20638b8e5c026930c3e6039a33ce45964ff2167f6ecedd419db06c1"},
		{"abcdefghbcdefghicdefghijdefghijkefghijklfghijklmghijklmnhijklmnoijklmnopjklmnopqklmnopqrlmnopqrsmnopqrstnopqrstu", "cf5b16a778af8380036ce59e7b0492370b249b11e8f07a51afac45037afee9d1"},
		{strings.Repeat("a", 1000000), "cdc76e5c9914fb9281a1c7e284d73e67f1809a48a497200e046d39ccc7112cd0"},
	} {
		if got := sha.Hex(sha.Sum(known.text)); got != known.digits {
			t.Errorf("the digest of a text of %d bytes: %s, not %s", len(known.text), got, known.digits)
		}
		if got := sha.Hex(taking(known.text).Sum()); got != known.digits {
			t.Errorf("a hash of %d bytes: %s, not %s", len(known.text), got, known.digits)
		}
	}
}

func TestSumOfEveryLength(t *testing.T) {
	for length := range 400 {
		for i, s := range []string{
			text(length, length),
			strings.Repeat("\x00", length),
			strings.Repeat("\xff", length),
			strings.Repeat("\x80", length),
			strings.Repeat("a", length),
		} {
			if got := sha.Sum(s); got != digest(s) {
				t.Errorf("kind %d, %d bytes: %x, not %x", i, length, got, digest(s))
			}
			stands(t, "kind "+strconv.Itoa(i)+", "+strconv.Itoa(length)+" bytes", taking(s), s)
		}
	}
	for b := range 256 {
		s := string([]byte{byte(b)})
		if got := sha.Sum(s); got != digest(s) {
			t.Errorf("the byte %d: %x, not %x", b, got, digest(s))
		}
	}
}

// Texts of which each differs from the others: by a byte 0 or 128 behind them,
// as the lengthening lays them there.
func TestNoTwoAlike(t *testing.T) {
	seen := map[string]string{}
	for length := range 130 {
		s := text(length, 9)
		for _, s := range []string{s, s + "\x80", s + "\x00", s + "\x80\x00", s + "\x00\x80"} {
			d := sha.Sum(s)
			if other, there := seen[d]; there && other != s {
				t.Errorf("%q and %q have one digest", s, other)
			}
			seen[d] = s
		}
	}
}

func TestLongTexts(t *testing.T) {
	for _, length := range []int{1<<14 - 9, 1 << 16, 1<<20 - 1, 1 << 20, 1<<20 + 55, 1<<20 + 56} {
		s := text(length, length)
		if got := sha.Sum(s); got != digest(s) {
			t.Errorf("%d bytes: %x, not %x", length, got, digest(s))
		}
		stands(t, strconv.Itoa(length)+" bytes", taking(s[:length/3], s[length/3:]), s)
	}
}

// A text whose bits are as many as 32 bits can't tell.
func TestLengthBeyondAWord(t *testing.T) {
	t.Parallel()
	part := text(1<<20, 5)
	h, want := sha.New(), sha256.New()
	for range 1 << 9 {
		h.Write(part)
		want.Write([]byte(part))
	}
	for taken := 1 << 29; taken < 1<<29+3; taken++ {
		if got := h.Sum(); got != string(want.Sum(nil)) || h.Len() != taken {
			t.Errorf("%d bytes: Sum %x, not %x; Len %d", taken, got, want.Sum(nil), h.Len())
		}
		h.Write("x")
		want.Write([]byte("x"))
	}
}

// Sh3: texts of the edges' lengths, cut into two and three parts at every
// place, so that parts are empty too; with and without a Sum between.
func TestCutEverywhere(t *testing.T) {
	for _, length := range []int{0, 1, 2, 55, 56, 63, 64, 65, 119, 120, 128, 129} {
		s := text(length, 3*length)
		want := digest(s)
		for first := 0; first <= length; first++ {
			for second := first; second <= length; second++ {
				h := taking(s[:first], s[first:second], s[second:])
				if h.Sum() != want || h.Len() != length {
					t.Fatalf("%d bytes cut at %d and %d: %x, not %x; Len %d", length, first, second, h.Sum(), want, h.Len())
				}
			}
			h := taking(s[:first])
			stands(t, "the first part", h, s[:first])
			h.Write("")
			stands(t, "behind an empty part", h, s[:first])
			h.Write(s[first:])
			stands(t, "behind a Sum", h, s)
			if t.Failed() {
				t.Fatalf("%d bytes cut at %d", length, first)
			}
		}
	}
}

// Parts of one length each, the rest last.
func TestManyParts(t *testing.T) {
	for _, length := range edges {
		s := text(length, length+1)
		for _, size := range []int{1, 2, 3, 7, 55, 56, 63, 64, 65, 127, 128, 129, 200} {
			h := sha.New()
			for at := 0; at < length; at += size {
				h.Write(s[at:min(at+size, length)])
				h.Write("")
			}
			stands(t, strconv.Itoa(length)+" bytes in parts of "+strconv.Itoa(size), h, s)
		}
	}
}

// All ways to cut a short text, around the end of a block.
func TestAllCuts(t *testing.T) {
	for _, ahead := range []int{0, 50, 58} {
		start, rest := text(ahead, 1), text(11, 2)
		for cuts := range 1 << 10 {
			h := taking(start)
			from := 0
			for at := range 10 {
				if cuts>>at&1 == 1 {
					h.Write(rest[from : at+1])
					from = at + 1
				}
			}
			h.Write(rest[from:])
			if h.Sum() != digest(start+rest) || h.Len() != ahead+11 {
				t.Fatalf("%d bytes ahead, cuts %b", ahead, cuts)
			}
		}
	}
}

// Sum behind each byte: what was asked ahead does not count.
func TestSumBetween(t *testing.T) {
	s := text(300, 7)
	h := sha.New()
	stands(t, "a new hash", h, "")
	for at := range len(s) {
		h.Write(s[at : at+1])
		stands(t, "behind "+strconv.Itoa(at+1)+" bytes", h, s[:at+1])
		if t.Failed() {
			t.FailNow()
		}
	}
}

// R3: an answer stays as it was, whatever is taken later.
func TestAnswersStay(t *testing.T) {
	h := taking("abc")
	held := h.Sum()
	h.Write(text(200, 1))
	if held != digest("abc") {
		t.Errorf("%x", held)
	}
	own := []byte("abc")
	h = taking(string(own))
	own[0] = 'x'
	stands(t, "what was handed in is not kept", h, "abc")
}

// R4: hashes know nothing of one another, nor of what the functions were asked.
func TestHashesAlone(t *testing.T) {
	var hashes [5]*sha.Hash
	var taken [5]string
	for i := range hashes {
		hashes[i] = sha.New()
	}
	for turn := range 60 {
		i := turn * 3 % len(hashes)
		part := text(turn*5%71, turn)
		hashes[i].Write(part)
		taken[i] += part
		sha.Sum(part)
		sha.Salted("salt", part)
		for j, h := range hashes {
			stands(t, "turn "+strconv.Itoa(turn)+", hash "+strconv.Itoa(j), h, taken[j])
		}
	}
	if sha.New() == sha.New() {
		t.Error("New answers one hash twice")
	}
}

// Many at one time: each has a hash of its own.
func TestAtOneTime(t *testing.T) {
	var all sync.WaitGroup
	for i := range 16 {
		all.Go(func() {
			s := text(1000+i, i)
			h := taking(s[:i*60], s[i*60:])
			if h.Sum() != digest(s) || sha.Sum(s) != digest(s) {
				t.Error("the digest of", i)
			}
		})
	}
	all.Wait()
}

// R1: hashes that New did not give.
func TestHashesOfNobody(t *testing.T) {
	h := taking("abc")
	byValue := *h
	byMove := new(sha.Hash)
	*byMove = *taking(text(70, 1))
	for i, z := range []*sha.Hash{nil, {}, new(sha.Hash), &byValue, byMove} {
		for _, s := range []string{"", "x", text(64, 1), text(200, 1)} {
			z.Write(s)
			if z.Sum() != "" || z.Len() != 0 {
				t.Errorf("%d: Sum %x, Len %d", i, z.Sum(), z.Len())
			}
		}
	}
	stands(t, "the hash itself", h, "abc")
	h.Write("d")
	stands(t, "the hash itself", h, "abcd")
}

func TestHex(t *testing.T) {
	for s, want := range map[string]string{
		"":                     "",
		"\x00":                 "00",
		"\x0f\xf0":             "0ff0",
		"\x01\x23\x45\x67":     "01234567",
		"\x89\xab\xcd\xef\xff": "89abcdefff",
		"a\nz":                 "610a7a",
		"\xc3\xa9":             "c3a9",
		"\x00\x00\x00":         "000000",
	} {
		if got := sha.Hex(s); got != want {
			t.Errorf("Hex(%q): %q, not %q", s, got, want)
		}
	}
	for b := range 256 {
		s := string([]byte{byte(b)})
		if got := sha.Hex(s); got != hex.EncodeToString([]byte(s)) {
			t.Errorf("Hex of the byte %d: %q", b, got)
		}
	}
}

// Sh3: there and back, texts of all lengths and bytes.
func TestUnhexOfHex(t *testing.T) {
	for _, length := range append(edges, 1<<16+1) {
		for seed := range 5 {
			s := text(length, seed)
			digits := sha.Hex(s)
			if len(digits) != 2*length || digits != hex.EncodeToString([]byte(s)) {
				t.Errorf("Hex of %d bytes: %d digits", length, len(digits))
			}
			if got, e := sha.Unhex(digits); got != s || e != api.OK {
				t.Errorf("Unhex of Hex of %d bytes: %v", length, e)
			}
		}
	}
}

// All texts of two bytes: those of two small digits, and no others, are of a byte.
func TestUnhexOfAllPairs(t *testing.T) {
	of := map[string]string{}
	for b := range 256 {
		of[hex.EncodeToString([]byte{byte(b)})] = string([]byte{byte(b)})
	}
	for a := range 256 {
		for b := range 256 {
			s := string([]byte{byte(a), byte(b)})
			wanted, there := of[s]
			wantedErr := api.ErrHex
			if there {
				wantedErr = api.OK
			}
			if got, e := sha.Unhex(s); got != wanted || e != wantedErr {
				t.Errorf("Unhex(%q): %q %v", s, got, e)
			}
		}
	}
}

func TestUnhexOfNone(t *testing.T) {
	if got, e := sha.Unhex(""); got != "" || e != api.OK {
		t.Errorf("Unhex of nothing: %q %v", got, e)
	}
	for _, s := range []string{
		"0", "f", "000", "abc", "01234", strings.Repeat("a", 63), strings.Repeat("a", 65), "\x00", "G",
		"AB", "aB", "Ab", "0A", "F0", "abcdeF", "DEADBEEF",
		"0g", "g0", "0x", "0x00", "x0", " 0", "0 ", "+1", "-1", "1_", "00 0", "0\n", "00\r\n", ",,", "//", "::", "@@", "``", "{}",
		"\x00\x00", "\xff\xff", "é", "٠١", "\uff10\uff11", "00\x00\x00",
	} {
		if got, e := sha.Unhex(s); got != "" || e != api.ErrHex {
			t.Errorf("Unhex(%q): %q %v", s, got, e)
		}
	}
	// A wrong sign at each place: nothing of what stands ahead is answered.
	whole := sha.Hex(text(40, 4))
	for at := range len(whole) {
		for _, sign := range []string{"G", "A", " ", "\x00", "\xb0"} {
			s := whole[:at] + sign + whole[at+1:]
			if got, e := sha.Unhex(s); got != "" || e != api.ErrHex {
				t.Errorf("Unhex with %q at %d: %q %v", sign, at, got, e)
			}
		}
		if got, e := sha.Unhex(whole[:at]); (e == api.OK) != (at%2 == 0) || len(got) != len(whole[:at])/2*(1-at%2) {
			t.Errorf("Unhex of %d digits: %q %v", at, got, e)
		}
	}
}

func TestSalted(t *testing.T) {
	words := []string{"", "w", "word", "\x00", "\xff\xfe", text(31, 1), text(54, 1), text(55, 1), text(64, 1), text(1000, 1)}
	for length := range 33 {
		for _, salt := range []string{text(length, 8), strings.Repeat("s", length), strings.Repeat("\x00", length), strings.Repeat("\xff", length)} {
			for _, word := range words {
				want := hex.EncodeToString([]byte(digest(string([]byte{byte(length)}) + salt + word)))
				if got, e := sha.Salted(salt, word); got != want || e != api.OK {
					t.Errorf("a salt of %d bytes, a word of %d: %q %v, not %q", length, len(word), got, e, want)
				}
			}
		}
	}
	if api.MaxName != 32 {
		t.Error("MaxName:", api.MaxName)
	}
	for _, length := range []int{33, 34, 64, 255, 256, 257, 288, 1 << 16, 1<<16 + 5} {
		for _, word := range words {
			if got, e := sha.Salted(text(length, 1), word); got != "" || e != api.ErrArg {
				t.Errorf("a salt of %d bytes: %q %v", length, got, e)
			}
		}
	}
}

// The salt's length is told, so that no byte goes from a salt to a word unseen.
func TestSaltEnds(t *testing.T) {
	seen := map[string]int{}
	whole := text(32, 6)
	for at := 0; at <= len(whole); at++ {
		got, e := sha.Salted(whole[:at], whole[at:])
		if other, there := seen[got]; there || e != api.OK {
			t.Errorf("cut at %d as at %d: %q %v", at, other, got, e)
		}
		seen[got] = at
	}
}

// R4: the same again is answered likewise, whatever was asked between.
func TestAgain(t *testing.T) {
	for range 3 {
		for _, length := range edges {
			s := text(length, 2)
			first := sha.Sum(s)
			sha.Sum("other")
			sha.Unhex("zz")
			sha.Salted(text(33, 1), s)
			salted, _ := sha.Salted("a", s)
			again, _ := sha.Salted("a", s)
			if sha.Sum(s) != first || salted != again {
				t.Errorf("%d bytes, asked again", length)
			}
		}
	}
}
