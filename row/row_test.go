package row_test

import (
	"cloister/api"
	"cloister/label"
	"cloister/row"
	"cmp"
	"encoding/binary"
	"fmt"
	"math"
	"math/rand"
	"slices"
	"strings"
	"sync"
	"testing"
	"unsafe"
)

const greatest = 1<<31 - 1 // category

// upTo is the set of the first n categories.
func upTo(n int) []int {
	var out []int
	for c := range n {
		out = append(out, c+1)
	}
	return out
}

// wide is a set of n categories, the last n that there are.
func wide(n int) []int {
	var out []int
	for c := range n {
		out = append(out, greatest-n+1+c)
	}
	return out
}

// far is a set of 64 categories, the numbers by which they are apart of four
// bytes each.
func far() []int {
	var out []int
	for c := range 64 {
		out = append(out, 1<<24+c<<24)
	}
	return out
}

// numbered is a text of n bytes, no two neighbours the same, 0 and 255 among
// them, if it is long.
func numbered(n, from int) string {
	out := make([]byte, n)
	for i := range out {
		out[i] = byte(from + i)
	}
	return string(out)
}

// cells are n of them, each of so many bytes.
func cells(n, size int) []string {
	var out []string
	for i := range n {
		out = append(out, numbered(size, 37*i))
	}
	return out
}

func goodKeys() []string {
	return []string{
		"k", "\x00", "\x01", "\xff", "\x80", "\x00\x00", "\xff\xff", "\x00\xff", "k\x00", "\x00k", "ä",
		numbered(63, 1), numbered(64, 0), numbered(64, 64), numbered(64, 128), numbered(64, 192),
		strings.Repeat("\x00", 64), strings.Repeat("\xff", 64), strings.Repeat("k", 64),
	}
}

func badKeys() []string {
	return []string{"", numbered(65, 0), strings.Repeat("\x00", 65), numbered(128, 0), numbered(256, 0), numbered(320, 0), strings.Repeat("k", 1<<20)}
}

func goodCells() [][]string {
	return [][]string{
		nil, {}, {""}, {"a"}, {"\x00"}, {"\xff"}, {"", ""}, {"", "a", ""}, {"a", "bc", "\x00\xff\x80"},
		cells(1, 127), cells(1, 128), cells(1, 255), cells(1, 256), {"", numbered(256, 0)}, cells(7, 1), cells(8, 0), cells(8, 1), cells(8, 256),
	}
}

func badCells() [][]string {
	return [][]string{
		cells(9, 0), cells(9, 1), cells(9, 256), cells(16, 0), cells(128, 0), cells(136, 0), cells(256, 0), cells(264, 1), cells(1<<16, 0),
		cells(1, 257), cells(1, 384), cells(1, 512), cells(8, 257), {"", numbered(257, 0)}, append(cells(7, 1), numbered(257, 0)),
		{numbered(257, 0), "", ""}, {"a", numbered(257, 0), "b"}, {strings.Repeat("a", 1<<20)},
	}
}

func goodSets() [][]int {
	return [][]int{
		nil, {}, {1}, {2, 3}, {127}, {128}, {1, 128, 129}, {16383, 16384}, {1<<21 - 1, 1 << 21}, {1<<28 - 1, 1 << 28},
		{greatest}, {1, greatest}, {greatest - 1, greatest}, upTo(63), upTo(64), wide(64), far(),
	}
}

func badSets() [][]int {
	return [][]int{
		{0}, {-1}, {0, 1}, {-1, 1}, {1, 0}, {1, 1}, {2, 1}, {1, 3, 2}, {1, 2, 2}, {3, 1, 2}, {greatest, greatest}, {greatest, 1},
		{greatest + 1}, {1, greatest + 1}, {1 << 32}, {1<<32 + 1}, {math.MinInt}, {math.MaxInt}, {1, math.MaxInt}, {math.MinInt + 1},
		upTo(65), wide(65), upTo(128), upTo(129), upTo(200), upTo(256), append(upTo(63), 63), append(upTo(64), greatest),
	}
}

func goodWhos() []int { return []int{-1, 0, 1, 7, 14, 15} }

func badWhos() []int {
	return []int{-2, -3, -16, 16, 17, 127, 128, 255, 256, math.MinInt32, math.MaxInt32, 1 << 32, -1 << 32, 1<<32 - 1, math.MinInt, math.MaxInt}
}

func goodLabels() []api.Label {
	var out []api.Label
	for _, s := range goodSets() {
		out = append(out, api.Label{S: s}, api.Label{I: s}, api.Label{S: s, I: upTo(64)}, api.Label{S: []int{3, 900}, I: s}, api.Label{S: s, I: s})
	}
	return out
}

func badLabels() []api.Label {
	var out []api.Label
	for _, s := range badSets() {
		out = append(out, api.Label{S: s}, api.Label{I: s}, api.Label{S: s, I: upTo(64)}, api.Label{S: upTo(64), I: s}, api.Label{S: s, I: s})
	}
	return out
}

// plain is a row that may be.
func plain() api.Row {
	return api.Row{Key: "key", Cells: []string{"one", "", "three"}, Label: api.Label{S: []int{1, 300}, I: []int{2}}, Who: 3}
}

// full is the row that has most of all.
func full() api.Row {
	return api.Row{Key: numbered(64, 200), Cells: cells(8, 256), Label: api.Label{S: far(), I: wide(64)}, Who: 15}
}

// goodRows are rows that may be.
func goodRows() []api.Row {
	out := []api.Row{plain(), full(), {Key: "k"}, {Key: "k", Who: -1}, {Key: "\x00", Cells: []string{""}, Who: -1}}
	for _, key := range goodKeys() {
		for _, c := range goodCells() {
			out = append(out, api.Row{Key: key, Cells: c, Label: plain().Label, Who: len(out)%17 - 1})
		}
	}
	for _, l := range goodLabels() {
		for _, who := range goodWhos() {
			out = append(out, api.Row{Key: "k", Cells: []string{"a"}, Label: l, Who: who})
		}
	}
	return out
}

// badRows are rows with one fault, all else of them in order.
func badRows() []api.Row {
	var out []api.Row
	with := func(change func(r *api.Row)) {
		for _, r := range []api.Row{plain(), full(), {Key: "k"}} {
			change(&r)
			out = append(out, r)
		}
	}
	for _, key := range badKeys() {
		with(func(r *api.Row) { r.Key = key })
	}
	for _, c := range badCells() {
		with(func(r *api.Row) { r.Cells = c })
	}
	for _, l := range badLabels() {
		with(func(r *api.Row) { r.Label = l })
	}
	for _, who := range badWhos() {
		with(func(r *api.Row) { r.Who = who })
	}
	return out
}

func same(a, b api.Row) bool {
	return a.Key == b.Key && a.Who == b.Who && slices.Equal(a.Cells, b.Cells) && slices.Equal(a.Label.S, b.Label.S) && slices.Equal(a.Label.I, b.Label.I)
}

// clone is a row that shares no lists with the first one.
func clone(r api.Row) api.Row {
	r.Cells, r.Label.S, r.Label.I = slices.Clone(r.Cells), slices.Clone(r.Label.S), slices.Clone(r.Label.I)
	return r
}

// shown is a value's text, cut off if it is long.
func shown(v any) string {
	s := fmt.Sprintf("%#v", v)
	return s[:min(len(s), 300)]
}

// isSet tells what the document asks of a label's sets.
func isSet(l []int) bool {
	for i, c := range l {
		if c < 1 || c > greatest || i > 0 && c <= l[i-1] {
			return false
		}
	}
	return len(l) <= 64
}

// mayBe tells what the document asks of rows.
func mayBe(r api.Row) bool {
	longest := 0
	for _, c := range r.Cells {
		longest = max(longest, len(c))
	}
	return r.Key != "" && len(r.Key) <= 64 && len(r.Cells) <= 8 && longest <= 256 && isSet(r.Label.S) && isSet(r.Label.I) && -1 <= r.Who && r.Who <= 15
}

// pieces are a row's bytes, each number and each text's bytes a piece of its
// own, by the library's own numbers of seven bits; those of numbers are told.
func pieces(r api.Row) (out []string, numbers []int) {
	number := func(n int) {
		numbers = append(numbers, len(out))
		out = append(out, string(binary.AppendUvarint(nil, uint64(n))))
	}
	text := func(s string) {
		number(len(s))
		out = append(out, s)
	}
	text(r.Key)
	number(len(r.Cells))
	for _, c := range r.Cells {
		text(c)
	}
	for _, set := range [][]int{r.Label.S, r.Label.I} {
		number(len(set))
		last := 0
		for _, c := range set {
			number(c - last)
			last = c
		}
	}
	number(r.Who + 1)
	return out, numbers
}

// wire is a row's bytes.
func wire(r api.Row) string {
	out, _ := pieces(r)
	return strings.Join(out, "")
}

// cursor goes over a text by the library's own numbers; bad once something is
// wrong.
type cursor struct {
	s   string
	at  int
	bad bool
}

func (c *cursor) number() int {
	n, size := binary.Uvarint([]byte(c.s[c.at:]))
	if c.bad || size <= 0 || n > 1<<40 || string(binary.AppendUvarint(nil, n)) != c.s[c.at:c.at+size] {
		c.bad = true
		return 0
	}
	c.at += size
	return int(n)
}

func (c *cursor) text() string {
	n := c.number()
	if c.bad || n > len(c.s)-c.at {
		c.bad = true
		return ""
	}
	c.at += n
	return c.s[c.at-n : c.at]
}

func (c *cursor) set() []int {
	var out []int
	last := 0
	for range c.number() {
		if last += c.number(); c.bad {
			break
		}
		out = append(out, last)
	}
	return out
}

// unwire is what the document says of Of: the row is read whatever it holds,
// and asked only then whether it may be.
func unwire(s string) (r api.Row, size int, ok bool) {
	c := &cursor{s: s}
	r.Key = c.text()
	for range c.number() {
		r.Cells = append(r.Cells, c.text())
		if c.bad {
			break
		}
	}
	r.Label.S, r.Label.I = c.set(), c.set()
	r.Who = c.number() - 1
	if c.bad || !mayBe(r) {
		return api.Row{}, 0, false
	}
	return r, c.at, true
}

// wantOf holds Of against what is wanted of it.
func wantOf(t *testing.T, s string, r api.Row, n int) {
	t.Helper()
	got, size, e := row.Of(s)
	if e != api.OK || size != n || !same(got, r) {
		t.Fatalf("Of(%s): %s %d %v; want %s %d", shown(s), shown(got), size, e, shown(r), n)
	}
}

func wantNoRow(t *testing.T, s string) {
	t.Helper()
	if got, size, e := row.Of(s); e != api.ErrRow || size != 0 || !same(got, api.Row{}) {
		t.Fatalf("Of(%s): %s %d %v; want ErrRow", shown(s), shown(got), size, e)
	}
}

// asDocument holds Of against unwire; true: it is a row.
func asDocument(t *testing.T, s string) bool {
	t.Helper()
	r, n, ok := unwire(s)
	if ok {
		wantOf(t, s, r, n)
	} else {
		wantNoRow(t, s)
	}
	return ok
}

func TestExample(t *testing.T) {
	r := api.Row{Key: "k", Cells: []string{"a"}, Label: api.Label{S: []int{1}}, Who: 0}
	want := string([]byte{1, 107, 1, 1, 97, 1, 1, 0, 1})
	if s, e := row.Bytes(r); s != want || e != api.OK {
		t.Errorf("%q %v", s, e)
	}
	if n, e := row.Size(r); n != 18 || e != api.OK {
		t.Error(n, e)
	}
	wantOf(t, want, r, 9)
	r.Key = ""
	if e := row.Check(r); e != api.ErrRow {
		t.Error(e)
	}
	if e := api.ErrRow; e != 110 {
		t.Error(e)
	}
}

// Ro1, of rows that may be: Check, Size, Bytes, and back.
func TestGoodRows(t *testing.T) {
	for _, r := range goodRows() {
		if !mayBe(r) {
			t.Fatal("no such row:", shown(r))
		}
		if e := row.Check(r); e != api.OK {
			t.Error(shown(r), e)
		}
		size := 16 + len(r.Key) + len(strings.Join(r.Cells, ""))
		if n, e := row.Size(r); n != size || e != api.OK {
			t.Error(shown(r), n, e)
		}
		s, e := row.Bytes(r)
		if s != wire(r) || e != api.OK {
			t.Error(shown(r), shown(s), e)
		}
		wantOf(t, s, r, len(s))
	}
}

// Ro1, of rows that may not be.
func TestBadRows(t *testing.T) {
	for _, r := range badRows() {
		if mayBe(r) {
			t.Fatal("such a row may be:", shown(r))
		}
		wantRefused(t, r)
	}
}

func wantRefused(t *testing.T, r api.Row) {
	t.Helper()
	if e := row.Check(r); e != api.ErrRow {
		t.Error("Check", shown(r), e)
	}
	if n, e := row.Size(r); n != 0 || e != api.ErrRow {
		t.Error("Size", shown(r), n, e)
	}
	if s, e := row.Bytes(r); s != "" || e != api.ErrRow {
		t.Error("Bytes", shown(r), shown(s), e)
	}
}

// Whatever is wrong and however much of it, the layer's own error is answered,
// not the one of the layer below.
func TestSeveralFaults(t *testing.T) {
	wantRefused(t, api.Row{})
	for _, key := range []string{"k", "", numbered(65, 0)} {
		for _, c := range [][]string{nil, cells(9, 1), cells(1, 257), cells(9, 257)} {
			for _, set := range [][]int{nil, {0}, {2, 1}, upTo(65)} {
				for _, who := range []int{0, -2, 16, math.MaxInt} {
					r := api.Row{Key: key, Cells: c, Label: api.Label{S: set, I: set}, Who: who}
					if !mayBe(r) {
						wantRefused(t, r)
						wantNoRow(t, wire(r))
					}
				}
			}
		}
	}
}

// Each length of the key, of a cell, and each number of cells, up to beyond
// what may be; each Who about its bounds.
func TestLengths(t *testing.T) {
	ask := func(r api.Row) {
		t.Helper()
		if !mayBe(r) {
			wantRefused(t, r)
			wantNoRow(t, wire(r))
			return
		}
		if s, e := row.Bytes(r); s != wire(r) || e != api.OK {
			t.Error(shown(r), shown(s), e)
		}
		if n, e := row.Size(r); n != 16+len(r.Key)+len(strings.Join(r.Cells, "")) || e != api.OK {
			t.Error(shown(r), n, e)
		}
		wantOf(t, wire(r), r, len(wire(r)))
	}
	for n := range 400 {
		ask(api.Row{Key: numbered(n, 3)})
		ask(api.Row{Key: "k", Cells: []string{numbered(n, 5)}})
		ask(api.Row{Key: "k", Cells: []string{"a", numbered(n, 5), "b"}})
		ask(api.Row{Key: "k", Cells: cells(n, 2)})
		ask(api.Row{Key: "k", Label: api.Label{S: upTo(n)}})
		ask(api.Row{Key: "k", Label: api.Label{I: upTo(n)}})
		ask(api.Row{Key: "k", Who: n - 200})
	}
}

// Ro3 and P8: of what Bytes gave, the row, whatever stands behind; no shorter
// piece is one.
func TestThereAndBack(t *testing.T) {
	behind := []string{"", "\x00", "\x01", "\x80", "\xff\xff", "k", strings.Repeat("\xff", 300), wire(plain())}
	for _, r := range goodRows() {
		s, _ := row.Bytes(r)
		for _, b := range behind {
			wantOf(t, s+b, r, len(s))
		}
	}
}

func TestEachBeginning(t *testing.T) {
	for i, r := range goodRows() {
		s := wire(r)
		if i > 50 && len(s) > 200 {
			continue
		}
		for n := range len(s) {
			wantNoRow(t, s[:n])
		}
	}
}

// Each text that is read is a row's own bytes: what Of answers has just those.
func TestBackAndThere(t *testing.T) {
	from := rand.New(rand.NewSource(11))
	rows := goodRows()
	found := 0
	for range 200000 {
		s := []byte(wire(rows[from.Intn(len(rows))]))
		s = s[:min(len(s), 60)]
		for range from.Intn(4) {
			s[from.Intn(len(s))] = byte(from.Intn(256))
		}
		text := string(s)
		asDocument(t, text)
		r, n, e := row.Of(text)
		if e != api.OK {
			continue
		}
		found++
		if back, e := row.Bytes(r); back != text[:n] || e != api.OK {
			t.Fatalf("%q was read, %q is written, %v", text[:n], back, e)
		}
	}
	if found < 1000 {
		t.Error("too few of them are rows:", found)
	}
}

func TestRowsBehindOneAnother(t *testing.T) {
	from := rand.New(rand.NewSource(12))
	rows := goodRows()
	for range 200 {
		var all []api.Row
		var s strings.Builder
		for range from.Intn(6) {
			r := rows[from.Intn(len(rows))]
			all = append(all, r)
			s.WriteString(wire(r))
		}
		rest := s.String()
		for _, r := range all {
			wantOf(t, rest, r, len(wire(r)))
			rest = rest[len(wire(r)):]
		}
		wantNoRow(t, rest)
	}
}

func TestOfWrong(t *testing.T) {
	for _, s := range []string{
		"", "\x00", "\x01", "\x01k", "\x01k\x00", "\x01k\x00\x00", "\x01k\x00\x00\x00", "k", "{1|}", "\x80", "\x80\x80", "\xff",
		"\x00\x00\x00\x00\x00",                        // no key
		"\x41" + numbered(65, 0) + "\x00\x00\x00\x00", // a key too long
		"\x80\x01" + numbered(128, 0) + "\x00\x00\x00\x00",
		"\x81\x00k\x00\x00\x00\x00", "\x01k\x80\x00\x00\x00\x00", "\x01k\x81\x00\x00\x00\x00\x00", "\x01k\x01\x80\x00\x00\x00\x00", "\x01k\x00\x80\x00\x00\x00", // a number longer than need be
		"\x01k\x00\x00\x80\x00\x00", "\x01k\x00\x00\x00\x80\x00", "\x01k\x00\x00\x00\x81\x00", "\x81\x80\x00k\x00\x00\x00\x00", "\x01k\x00\x00\x00\x81\x80\x00",
		"\x01k\x00\x00\x00\x80", "\x01k\x80", "\x01k\x01\x80", "\x01k\x01\x81", "\x01k\x00\x80", "\x01k\x00\x01\x80", "\x81", // one that ends in the midst
		"\x01k\x09\x00\x00\x00\x00\x00\x00\x00\x00\x00\x00\x00\x00",                                                            // nine cells
		"\x01k\x01\x81\x02" + numbered(257, 0) + "\x00\x00\x00",                                                                // a cell too long
		"\x01k\x00\x00\x00\x11", "\x01k\x00\x00\x00\x7f", "\x01k\x00\x00\x00\x80\x01", "\x01k\x00\x00\x00\xff\xff\xff\xff\x0f", // no such user
		"\x02k\x00\x00\x00", "\x40k\x00\x00\x00\x00", "\x06k\x00\x00\x00\x00", "\x05k\x00\x00\x00\x00", // a count larger than what stands behind
		"\x01k\x01", "\x01k\x08\x00\x00\x00\x00\x00\x00\x00", "\x01k\x02\x00\x00\x00\x00", "\x01k\x01\x03ab", "\x01k\x01\x80\x02" + numbered(255, 0), "\x01k\x00\x40\x01\x00\x00",
		"\x01k\x00\x01\x00\x00\x00", "\x01k\x00\x02\x01\x00\x00\x00", "\x01k\x00\x00\x01\x00\x00", // a label that may not be
		"\x01k\x00\x41" + strings.Repeat("\x01", 65) + "\x00\x00", "\x01k\x00\x00\x41" + strings.Repeat("\x01", 65) + "\x00",
		"\x01k\x00\x01\x80\x80\x80\x80\x08\x00\x00", "\x01k\x00\x02\xff\xff\xff\xff\x07\x01\x00\x00",
	} {
		wantNoRow(t, s)
		if _, _, ok := unwire(s); ok {
			t.Errorf("%q is a row", s)
		}
	}
}

// forms are what may stand for a number: itself longer than need be, others
// that would be it if they wrapped, too great ones, none.
func forms(n uint64) []string {
	var out []string
	shortest := binary.AppendUvarint(nil, n)
	for more := range 12 {
		s := slices.Clone(shortest)
		s[len(s)-1] |= 0x80
		s = append(s, slices.Repeat([]byte{0x80}, more)...)
		out = append(out, string(append(slices.Clone(s), 0)), string(append(slices.Clone(s), 1)), string(append(s, 0x10)), string(s))
	}
	for bit := range 64 {
		out = append(out, string(binary.AppendUvarint(nil, n+1<<bit)), string(binary.AppendUvarint(nil, 1<<bit-1)))
	}
	return append(out, "", "\x00", strings.Repeat("\x80", 1000), strings.Repeat("\xff", 1000), strings.Repeat("\xff", 9)+"\x01", strings.Repeat("\xff", 9)+"\x02")
}

// Each number of a row's bytes in whatever other form.
func TestEachNumber(t *testing.T) {
	for _, r := range []api.Row{plain(), {Key: "k"}, {Key: numbered(64, 0), Cells: cells(8, 3), Label: api.Label{I: wide(3)}, Who: 15}, {Key: "k", Cells: cells(2, 130)}} {
		parts, numbers := pieces(r)
		for _, i := range numbers {
			own := parts[i]
			n, _ := binary.Uvarint([]byte(own))
			for _, form := range forms(n) {
				parts[i] = form
				s := strings.Join(parts, "")
				asDocument(t, s)
				asDocument(t, s+strings.Repeat("\x00", 300))
				asDocument(t, s+strings.Repeat("\x01", 300))
				asDocument(t, strings.Join(parts[:i+1], ""))
			}
			parts[i] = own
		}
	}
}

// Each byte of a row's bytes as another one, gone, and another one ahead of it.
func TestEachByte(t *testing.T) {
	for _, r := range []api.Row{
		plain(), {Key: "k"}, {Key: "k", Who: -1}, {Key: "\x00\xff", Cells: []string{"", "\x80"}, Label: api.Label{S: upTo(64)}, Who: 15},
		{Key: numbered(64, 100), Cells: cells(8, 2), Label: api.Label{I: wide(64)}, Who: 15}, {Key: "a", Cells: cells(1, 256), Who: 7},
	} {
		s := wire(r)
		for i := range len(s) {
			asDocument(t, s[:i]+s[i+1:])
			for b := range 256 {
				other := string([]byte{byte(b)})
				asDocument(t, s[:i]+other+s[i+1:])
				asDocument(t, s[:i]+other+s[i:])
			}
		}
	}
}

// texts hands on all texts of at most so many of the bytes.
func texts(alphabet string, most int, take func(s string)) {
	take("")
	if most == 0 {
		return
	}
	for i := range len(alphabet) {
		texts(alphabet, most-1, func(s string) { take(alphabet[i:i+1] + s) })
	}
}

// All short texts of bytes that matter, and all that may follow upon what is
// in order so far.
func TestShortTexts(t *testing.T) {
	good := 0
	for _, c := range []struct {
		ahead, alphabet string
		most            int
	}{
		{"", "\x00\x01\x02\x80", 8},
		{"", "\x00\x01\x08\x09\x10\x11\x7f\x80\xff", 6},
		{"\x01k", "\x00\x01\x02\x07\x08\x09\x10\x11\x80\x81\xff", 5},
		{"\x02\x00\xff\x00", "\x00\x01\x0f\x10\x11\x12\x7f\x80\x81\xff", 5},
		{"\x01k\x01", "\x00\x01\x02\x03\x80", 7},
		{"\x01k\x00\x01\xff\xff\xff\xff", "\x00\x01\x07\x08\x10\x11\x80", 5},
		{"\x01k\x08\x00\x00\x00\x00\x00\x00\x00", "\x00\x01\x02\x10\x80", 6},
	} {
		texts(c.alphabet, c.most, func(s string) {
			if asDocument(t, c.ahead+s) {
				good++
			}
		})
	}
	if good < 10000 {
		t.Error("too few of them are rows:", good)
	}
}

// R1: any bytes at all are taken, and calls end.
func TestAnyBytes(t *testing.T) {
	from := rand.New(rand.NewSource(13))
	for range 100000 {
		s := make([]byte, from.Intn(40))
		for i := range s {
			s[i] = byte(from.Intn(256) >> from.Intn(9))
		}
		asDocument(t, string(s))
	}
	for b := range 256 {
		asDocument(t, strings.Repeat(string([]byte{byte(b)}), 1<<16))
		asDocument(t, "\x01k"+strings.Repeat(string([]byte{byte(b)}), 1<<16))
	}
	wantNoRow(t, strings.Repeat("\x80", 1<<24))
	wantNoRow(t, "\x01k"+strings.Repeat("\x80", 1<<24))
	wantOf(t, wire(plain())+strings.Repeat("\x80", 1<<24), plain(), len(wire(plain())))
}

// spot is what a place is of.
type spot struct {
	key string
	set []int
}

// ordered holds the texts of any two spots against the order that the chapter
// asks for.
func ordered(t *testing.T, spots []spot) {
	t.Helper()
	var places []string
	for _, x := range spots {
		s, e := row.Place(x.key, x.set)
		if e != api.OK {
			t.Fatalf("Place(%q, %v): %v", x.key, x.set, e)
		}
		places = append(places, s)
	}
	for i, a := range spots {
		for j, b := range spots {
			want := cmp.Or(cmp.Compare(a.key, b.key), slices.Compare(a.set, b.set))
			if got := cmp.Compare(places[i], places[j]); got != want {
				t.Fatalf("%q %v and %q %v: %d; want %d", a.key, a.set, b.key, b.set, got, want)
			}
		}
	}
}

// edges are the categories at each bound, and at each length of a number's
// bytes, of seven and of eight bits, with their neighbours.
func edges() []int {
	out := []int{1, 2, 3, greatest - 1, greatest}
	for bit := 7; bit < 31; bit++ {
		if bit%7 == 0 || bit%8 == 0 || bit == 15 || bit == 30 {
			out = append(out, 1<<bit-1, 1<<bit, 1<<bit+1)
		}
	}
	slices.Sort(out)
	return slices.Compact(out)
}

func TestPlaceKeys(t *testing.T) {
	var spots []spot
	add := func(key string) {
		if key != "" && len(key) <= 64 {
			spots = append(spots, spot{key, nil}, spot{key, []int{1}}, spot{key, []int{1, 2}}, spot{key, []int{greatest}})
		}
	}
	texts("\x00\x01\x02\xfe\xff", 3, add)
	for b := range 256 {
		add(string([]byte{byte(b)}) + "\x00\x00\x00")
	}
	for _, piece := range []string{"\x00", "\x01", "\xff", "\x00\x01", "\x00\xff"} {
		for _, n := range []int{31, 32, 62, 63, 64} {
			for _, end := range []string{"", "\x00", "\x01", "\xfe", "\xff"} {
				add(strings.Repeat(piece, n)[:n] + end)
			}
		}
	}
	for n := range 64 {
		add(numbered(n+1, 0xf0))
	}
	slices.SortFunc(spots, func(a, b spot) int { return cmp.Or(cmp.Compare(a.key, b.key), slices.Compare(a.set, b.set)) })
	spots = slices.CompactFunc(spots, func(a, b spot) bool { return a.key == b.key && slices.Equal(a.set, b.set) })
	ordered(t, spots)
}

func TestPlaceSets(t *testing.T) {
	sets := [][]int{nil}
	for i, a := range edges() {
		sets = append(sets, []int{a})
		for _, b := range edges()[i+1:] {
			sets = append(sets, []int{a, b})
		}
	}
	for n := 3; n <= 64; n++ {
		sets = append(sets, upTo(n), wide(n))
	}
	sets = append(sets, far(), far()[:63], far()[:32])
	for _, at := range []int{0, 31, 62, 63} {
		parted := far()
		parted[at]++
		sets = append(sets, parted)
	}
	for i := range edges() {
		if i >= 3 {
			sets = append(sets, edges()[:i], edges()[len(edges())-i:])
		}
	}
	var spots []spot
	for _, key := range []string{"a", "a\x00", "a\x01", "b"} {
		for _, set := range sets {
			spots = append(spots, spot{key, set})
		}
	}
	ordered(t, spots)
}

// Keys and sets drawn so that the beginnings are often the same.
func TestPlaceDrawn(t *testing.T) {
	from := rand.New(rand.NewSource(14))
	var spots []spot
	for range 1500 {
		key := make([]byte, 1+from.Intn(5))
		for i := range key {
			key[i] = "\x00\x00\x01\x02\xff"[from.Intn(5)]
		}
		var set []int
		for range from.Intn(4) {
			set = append(set, edges()[from.Intn(len(edges()))])
		}
		slices.Sort(set)
		spots = append(spots, spot{string(key), slices.Compact(set)})
	}
	ordered(t, spots)
}

func TestPlaceWrong(t *testing.T) {
	refused := func(key string, set []int) {
		t.Helper()
		if s, e := row.Place(key, set); s != "" || e != api.ErrRow {
			t.Errorf("Place(%s, %s): %s %v; want ErrRow", shown(key), shown(set), shown(s), e)
		}
	}
	for _, key := range badKeys() {
		for _, set := range slices.Concat(goodSets(), badSets()) {
			refused(key, set)
		}
	}
	for _, key := range goodKeys() {
		for _, set := range badSets() {
			refused(key, set)
		}
		for _, set := range goodSets() {
			if s, e := row.Place(key, set); s == "" || e != api.OK {
				t.Errorf("Place(%s, %s): %s %v", shown(key), shown(set), shown(s), e)
			}
		}
	}
}

// roomy is a list with others behind its end.
func roomy[T any](l []T, behind ...T) []T {
	return append(slices.Clone(l), behind...)[:len(l)]
}

// R3: what is handed in stays as it is, with the room behind it, which no
// answer hangs on.
func TestArguments(t *testing.T) {
	for _, r := range []api.Row{plain(), full(), {Key: "k"}, {}, {Key: "k", Cells: cells(1, 257)}, {Key: "k", Label: api.Label{S: []int{2, 1}}}} {
		x := r
		x.Cells = roomy(r.Cells, "x", numbered(300, 0), "y")
		x.Label.S = roomy(r.Label.S, 7, 0, -1)
		x.Label.I = roomy(r.Label.I, 7, 0, -1)
		before := clone(x)
		before.Cells = slices.Clone(x.Cells[:cap(x.Cells)])
		before.Label.S = slices.Clone(x.Label.S[:cap(x.Label.S)])
		before.Label.I = slices.Clone(x.Label.I[:cap(x.Label.I)])
		e1, f1 := row.Check(x), row.Check(r)
		n2, e2 := row.Size(x)
		m2, f2 := row.Size(r)
		s3, e3 := row.Bytes(x)
		t3, f3 := row.Bytes(r)
		s4, e4 := row.Place(x.Key, x.Label.S)
		t4, f4 := row.Place(r.Key, r.Label.S)
		if e1 != f1 || n2 != m2 || e2 != f2 || s3 != t3 || e3 != f3 || s4 != t4 || e4 != f4 {
			t.Error("the room behind is read:", shown(r))
		}
		x.Cells, x.Label.S, x.Label.I = x.Cells[:cap(x.Cells)], x.Label.S[:cap(x.Label.S)], x.Label.I[:cap(x.Label.I)]
		if !same(x, before) {
			t.Error("an argument is changed:", shown(x), shown(before))
		}
	}
}

// overlaps tells whether two texts share memory.
func overlaps(a, b string) bool {
	if len(a) < 2 || len(b) < 2 { // of a single byte there is one text for all
		return false
	}
	p, q := uintptr(unsafe.Pointer(unsafe.StringData(a))), uintptr(unsafe.Pointer(unsafe.StringData(b)))
	return p < q+uintptr(len(b)) && q < p+uintptr(len(a))
}

// R3: an answer is new memory.
func TestAnswersAreNew(t *testing.T) {
	for _, want := range []api.Row{plain(), full()} {
		text, _ := row.Bytes(want)
		for _, part := range append(slices.Clone(want.Cells), want.Key) {
			if overlaps(part, text) {
				t.Errorf("Bytes: %s lies in what was handed in", shown(part))
			}
		}
		if place, _ := row.Place(want.Key, nil); overlaps(place, want.Key) {
			t.Error("Place: the key is what was handed in")
		}
		r, _, _ := row.Of(text)
		for _, part := range append(slices.Clone(r.Cells), r.Key) {
			if overlaps(part, text) {
				t.Errorf("Of: %s lies in what was handed in", shown(part))
			}
		}
		other, _, _ := row.Of(text)
		for i := range r.Cells[:cap(r.Cells)] {
			r.Cells[:cap(r.Cells)][i] = "changed"
		}
		for i := range r.Label.S[:cap(r.Label.S)] {
			r.Label.S[:cap(r.Label.S)][i] = 99
		}
		if !slices.Equal(r.Label.I, want.Label.I) {
			t.Error("Of: S and I share memory", r.Label.I)
		}
		for i := range r.Label.I[:cap(r.Label.I)] {
			r.Label.I[:cap(r.Label.I)][i] = 99
		}
		if !same(other, want) {
			t.Error("two answers share memory:", shown(other))
		}
		wantOf(t, text, want, len(text))
	}
}

// R3: nil and the empty list are the same.
func TestEmptyLists(t *testing.T) {
	a := api.Row{Key: "k"}
	b := api.Row{Key: "k", Cells: []string{}, Label: api.Label{S: []int{}, I: []int{}}}
	s, e := row.Bytes(a)
	if other, f := row.Bytes(b); other != s || e != api.OK || f != api.OK {
		t.Errorf("%q %v %q %v", s, e, other, f)
	}
	p, e := row.Place("k", nil)
	if other, f := row.Place("k", []int{}); other != p || e != api.OK || f != api.OK {
		t.Errorf("%q %v %q %v", p, e, other, f)
	}
}

// The bytes hold the label's as layer 2 has them.
func TestLabelWithin(t *testing.T) {
	for _, l := range goodLabels() {
		within, _ := label.Bytes(l)
		if s, e := row.Bytes(api.Row{Key: "k", Label: l, Who: 9}); s != "\x01k\x00"+within+"\x0a" || e != api.OK {
			t.Errorf("%v: %q %v", l, s, e)
		}
	}
}

// R4: the same answers again, whatever was asked between, and of many at one
// time.
func TestAgain(t *testing.T) {
	rows := goodRows()
	var group sync.WaitGroup
	for w := range 8 {
		group.Go(func() {
			for i := range rows {
				r := rows[(i*(2*w+1)+w)%len(rows)]
				s, e := row.Bytes(r)
				got, n, f := row.Of(s)
				if s != wire(r) || e != api.OK || n != len(s) || f != api.OK || !same(got, r) {
					t.Error(shown(r), shown(s), e, f)
				}
				row.Of(s[:len(s)-1])
				first, _ := row.Place(r.Key, r.Label.S)
				row.Place("", []int{0})
				if again, _ := row.Place(r.Key, r.Label.S); again != first {
					t.Error(shown(r), shown(first), shown(again))
				}
			}
		})
	}
	group.Wait()
}
