package label_test

import (
	"cloister/api"
	"cloister/label"
	"encoding/binary"
	"math"
	"regexp"
	"slices"
	"strconv"
	"strings"
	"testing"
)

// of is a label of two lists.
func of(s, i []int) api.Label { return api.Label{S: s, I: i} }

// upTo is the set of the first n categories.
func upTo(n int) []int {
	var out []int
	for c := range n {
		out = append(out, c+1)
	}
	return out
}

// subset is the set of the categories c for which bit c-1 is set.
func subset(bits int) []int {
	var out []int
	for c := 1; bits>>(c-1) > 0; c++ {
		if bits>>(c-1)&1 == 1 {
			out = append(out, c)
		}
	}
	return out
}

// small are all labels of the categories 1 to 3: the place's low three bits tell S, the next three I.
func small() []api.Label {
	var out []api.Label
	for i := range 64 {
		out = append(out, of(subset(i&7), subset(i>>3)))
	}
	return out
}

func equal(a, b api.Label) bool {
	return slices.Equal(a.S, b.S) && slices.Equal(a.I, b.I)
}

func none(l api.Label) bool { return len(l.S) == 0 && len(l.I) == 0 }

// goodSets are sets that a label may have.
func goodSets() [][]int {
	return [][]int{
		nil, {}, {1}, {2, 3}, {127}, {128}, {1, 128, 129}, {1, 129}, {16383}, {16384}, {1<<21 - 1}, {1 << 21}, {1<<28 - 1}, {1 << 28},
		{api.MaxCat}, {1, api.MaxCat}, {api.MaxCat - 1, api.MaxCat}, upTo(63), upTo(64), append(upTo(63), api.MaxCat),
	}
}

// badSets are lists that no label may have.
func badSets() [][]int {
	return [][]int{
		{0}, {-1}, {0, 1}, {-1, 1}, {1, 0}, {1, 1}, {2, 1}, {1, 3, 2}, {1, 2, 2}, {3, 1, 2}, {api.MaxCat + 1}, {1, api.MaxCat + 1},
		{math.MinInt}, {math.MaxInt}, {1, math.MaxInt}, upTo(65), upTo(200), append(upTo(64), api.MaxCat), append(upTo(63), 63),
	}
}

// goodLabels are labels that may be, of goodSets.
func goodLabels() []api.Label {
	var out []api.Label
	for _, s := range goodSets() {
		for _, i := range goodSets() {
			out = append(out, of(s, i))
		}
	}
	return out
}

// badLabels are labels that may not be, by S, by I, by both.
func badLabels() []api.Label {
	var out []api.Label
	for _, b := range badSets() {
		out = append(out, of(b, nil), of(nil, b), of(b, upTo(64)), of(upTo(64), b), of(b, b))
	}
	return out
}

func TestCheck(t *testing.T) {
	for _, l := range goodLabels() {
		if e := label.Check(l); e != api.OK {
			t.Error(l, e)
		}
	}
	for _, l := range badLabels() {
		if e := label.Check(l); e != api.ErrLabel {
			t.Error(l, e)
		}
	}
}

// TestCheckSmall holds Check against the plain rule on all short lists of small numbers.
func TestCheckSmall(t *testing.T) {
	var lists [][]int
	for a := -1; a <= 3; a++ {
		lists = append(lists, []int{a})
		for b := -1; b <= 3; b++ {
			lists = append(lists, []int{a, b})
			for c := -1; c <= 3; c++ {
				lists = append(lists, []int{a, b, c})
			}
		}
	}
	for _, l := range lists {
		want := api.OK
		for i, x := range l {
			if x < 1 || i > 0 && x <= l[i-1] {
				want = api.ErrLabel
			}
		}
		if e := label.Check(of(l, nil)); e != want {
			t.Error("S", l, e)
		}
		if e := label.Check(of(nil, l)); e != want {
			t.Error("I", l, e)
		}
	}
}

func TestSame(t *testing.T) {
	all := small()
	for i, a := range all {
		for j, b := range all {
			if same, e := label.Same(a, b); same != (i == j) || e != api.OK {
				t.Error(a, b, same, e)
			}
		}
	}
	big := of(append(upTo(63), api.MaxCat), upTo(64))
	if same, e := label.Same(big, of(slices.Clone(big.S), slices.Clone(big.I))); !same || e != api.OK {
		t.Error(same, e)
	}
	if same, e := label.Same(big, of(append(upTo(63), api.MaxCat-1), upTo(64))); same || e != api.OK {
		t.Error(same, e)
	}
	if same, e := label.Same(of(nil, []int{}), of([]int{}, nil)); !same || e != api.OK {
		t.Error("nil and the empty list", same, e)
	}
}

// TestBadLabels: whichever of the labels may not be, the call is refused, and all else is zero; own is not asked for then.
func TestBadLabels(t *testing.T) {
	good := of([]int{1}, []int{2})
	for _, bad := range badLabels() {
		for _, p := range [][2]api.Label{{bad, good}, {good, bad}, {bad, bad}, {bad, {}}, {{}, bad}} {
			a, b := p[0], p[1]
			if same, e := label.Same(a, b); same || e != api.ErrLabel {
				t.Error("Same", a, b, same, e)
			}
			for _, own := range [][]int{nil, {1, 2}, {0}, {2, 1}} {
				if lacks, e := label.Flows(a, b, own); len(lacks) != 0 || e != api.ErrLabel {
					t.Error("Flows", a, b, own, lacks, e)
				}
			}
			if l, e := label.Join(a, b); !none(l) || e != api.ErrLabel {
				t.Error("Join", a, b, l, e)
			}
			if l, e := label.Meet(a, b); !none(l) || e != api.ErrLabel {
				t.Error("Meet", a, b, l, e)
			}
		}
		if s, e := label.Bytes(bad); s != "" || e != api.ErrLabel {
			t.Errorf("Bytes %v %q %v", bad, s, e)
		}
		if s, e := label.Print(bad); s != "" || e != api.ErrLabel {
			t.Errorf("Print %v %q %v", bad, s, e)
		}
	}
}

// TestFlows holds Flows against bits of sets, over all labels and all that is owned of three categories.
func TestFlows(t *testing.T) {
	all := small()
	for i, a := range all {
		for j, b := range all {
			lack := i&7&^(j&7) | j>>3&^(i>>3)
			for own := range 8 {
				got, e := label.Flows(a, b, subset(own))
				if lack&^own != 0 {
					if e != api.ErrDeny || len(got) != 0 {
						t.Fatal(a, b, subset(own), got, e)
					}
				} else if e != api.OK || !slices.Equal(got, subset(lack)) {
					t.Fatal(a, b, subset(own), got, e)
				}
			}
		}
	}
}

func TestFlowsOwn(t *testing.T) {
	a, b := of([]int{1, 3}, []int{2}), of([]int{1}, nil)
	for _, own := range [][]int{{0, 3}, {-1, 3}, {3, 3}, {3, 1}, {1, 3, 2}, {3, api.MaxCat + 1}, {math.MinInt, 3}, {3, math.MaxInt}, {0}, {1, 1}} {
		if got, e := label.Flows(a, b, own); e != api.ErrArg || len(got) != 0 {
			t.Error(own, got, e)
		}
		if got, e := label.Flows(b, b, own); e != api.ErrArg || len(got) != 0 {
			t.Error("what lacks nothing", own, got, e)
		}
	}
	for _, own := range [][]int{{3}, {1, 2, 3}, {3, api.MaxCat}, upTo(64), upTo(65), upTo(1000)} {
		if got, e := label.Flows(a, b, own); e != api.OK || !slices.Equal(got, []int{3}) {
			t.Error(own, got, e)
		}
	}
	for _, own := range [][]int{nil, {}, {1}, {1, 2}, {4}, {api.MaxCat}, append(upTo(2), 4, 5)} {
		if got, e := label.Flows(a, b, own); e != api.ErrDeny || len(got) != 0 {
			t.Error(own, got, e)
		}
	}
}

// TestFlowsMuch: a flow may lack more than a label's set could hold, from both sets, rising as one.
func TestFlowsMuch(t *testing.T) {
	var odd, even []int
	for c := range 64 {
		odd, even = append(odd, 2*c+1), append(even, 2*c+2)
	}
	a, b := of(even, nil), of(nil, odd)
	if got, e := label.Flows(a, b, upTo(128)); e != api.OK || !slices.Equal(got, upTo(128)) {
		t.Error(got, e)
	}
	if got, e := label.Flows(a, b, upTo(127)); e != api.ErrDeny || len(got) != 0 {
		t.Error(got, e)
	}
	if got, e := label.Flows(of([]int{1}, nil), of(nil, []int{1}), []int{1}); e != api.OK || !slices.Equal(got, []int{1}) {
		t.Error("lacked in both", got, e)
	}
}

// TestBounds holds Join and Meet against bits of sets.
func TestBounds(t *testing.T) {
	all := small()
	for i, a := range all {
		for j, b := range all {
			both, either := i&j, i|j
			if l, e := label.Join(a, b); e != api.OK || !equal(l, of(subset(either&7), subset(both>>3))) {
				t.Fatal("Join", a, b, l, e)
			}
			if l, e := label.Meet(a, b); e != api.OK || !equal(l, of(subset(both&7), subset(either>>3))) {
				t.Fatal("Meet", a, b, l, e)
			}
		}
	}
}

func TestBoundsFull(t *testing.T) {
	least, most := upTo(32), []int{}
	for c := range 32 {
		most = append(most, api.MaxCat-31+c)
	}
	full, over := slices.Concat(least, most), append([]int{1000}, most...)
	if l, e := label.Join(of(least, nil), of(most, nil)); e != api.OK || !slices.Equal(l.S, full) || len(l.I) != 0 {
		t.Error("Join to 64", l, e)
	}
	if l, e := label.Meet(of(nil, least), of(nil, most)); e != api.OK || !slices.Equal(l.I, full) || len(l.S) != 0 {
		t.Error("Meet to 64", l, e)
	}
	for _, p := range [][2][]int{{least, over}, {full, {1000}}, {{1000}, full}, {upTo(64), over}} {
		if l, e := label.Join(of(p[0], nil), of(p[1], nil)); e != api.ErrFull || !none(l) {
			t.Error("Join beyond", l, e)
		}
		if l, e := label.Meet(of(nil, p[0]), of(nil, p[1])); e != api.ErrFull || !none(l) {
			t.Error("Meet beyond", l, e)
		}
		if l, e := label.Join(of(nil, p[0]), of(nil, p[1])); e != api.OK || len(l.I) > 64 {
			t.Error("Join of integrities", l, e)
		}
		if l, e := label.Meet(of(p[0], nil), of(p[1], nil)); e != api.OK || len(l.S) > 64 {
			t.Error("Meet of secrecies", l, e)
		}
	}
	if _, e := label.Join(of(full, nil), of([]int{1000}, []int{0})); e != api.ErrLabel {
		t.Error("ErrLabel comes ahead of ErrFull", e)
	}
}

// wire is a label's bytes, by the library's own numbers of seven bits.
func wire(l api.Label) string {
	var out []byte
	for _, set := range [][]int{l.S, l.I} {
		out = binary.AppendUvarint(out, uint64(len(set)))
		last := 0
		for _, c := range set {
			out = binary.AppendUvarint(out, uint64(c-last))
			last = c
		}
	}
	return string(out)
}

func TestBytes(t *testing.T) {
	for _, c := range []struct {
		l    api.Label
		want string
	}{
		{of(nil, nil), "\x00\x00"},
		{of([]int{1, 3}, []int{2}), "\x02\x01\x02\x01\x02"},
		{of([]int{127}, []int{128}), "\x01\x7f\x01\x80\x01"},
		{of([]int{1, 128}, nil), "\x02\x01\x7f\x00"},
		{of([]int{1, 129}, nil), "\x02\x01\x80\x01\x00"},
		{of(nil, []int{16383, 32767}), "\x00\x02\xff\x7f\x80\x80\x01"},
		{of([]int{api.MaxCat}, nil), "\x01\xff\xff\xff\xff\x07\x00"},
		{of(upTo(64), nil), "\x40" + strings.Repeat("\x01", 64) + "\x00"},
	} {
		if s, e := label.Bytes(c.l); s != c.want || e != api.OK {
			t.Errorf("%v %q %v", c.l, s, e)
		}
	}
	for _, l := range append(goodLabels(), small()...) {
		if s, e := label.Bytes(l); s != wire(l) || e != api.OK {
			t.Errorf("%v %q %v", l, s, e)
		}
	}
}

// TestOfBytes: there and back, whatever goes on behind; no shorter piece is a label.
func TestOfBytes(t *testing.T) {
	for _, l := range append(goodLabels(), small()...) {
		s := wire(l)
		for _, behind := range []string{"", "\x00", "\x01", "\x80", "\xff\xff", s} {
			if got, n, e := label.Of(s + behind); !equal(got, l) || n != len(s) || e != api.OK {
				t.Fatalf("%v %q: %v %d %v", l, behind, got, n, e)
			}
		}
		for n := range len(s) {
			if got, size, e := label.Of(s[:n]); !none(got) || size != 0 || e != api.ErrLabel {
				t.Fatalf("%v: its first %d bytes: %v %d %v", l, n, got, size, e)
			}
		}
	}
}

func TestOfWrong(t *testing.T) {
	ones := func(n int) string { return strings.Repeat("\x01", n) }
	for _, s := range []string{
		"", "\x00", "\x01", "\x01\x01", "\x80", "\x80\x80",
		"\x80\x00\x00", "\x00\x80\x00", "\x81\x00\x01\x00", "\x01\x81\x00\x00", "\x01\x80\x00\x00", "\x01\xff\x80\x00\x00", // not the shortest
		"\x01\x00\x00", "\x00\x01\x00", "\x02\x01\x00\x00", "\x02\x00\x01\x00", // a category 0, one twice
		"\x41" + ones(65) + "\x00", "\x00\x41" + ones(65), "\x80\x01" + ones(200), "\x00\x80\x01" + ones(200), // more than 64
		"\x01\x80\x80\x80\x80\x08\x00", "\x01\xff\xff\xff\xff\x0f\x00", "\x01\xff\xff\xff\xff\x7f\x00", // above MaxCat
		"\x02\xff\xff\xff\xff\x07\x01\x00", "\x02\x01\xff\xff\xff\xff\x07\x00", "\x00\x02\xff\xff\xff\xff\x07\xff\xff\xff\xff\x07",
		"\x01\x81\x80\x80\x80\x10\x00", "\x01\x81\x80\x80\x80\x80\x80\x80\x80\x80\x02\x00", "\x01\x81\x80\x80\x80\x80\x80\x80\x80\x80\x80\x01\x00", // 1, if it wrapped
		"\x81\x80\x80\x80\x10\x01\x00", "\x80\x80\x80\x80\x10\x00", "\x01\x81\x80\x80\x80\x80\x00\x00", "\x81\x80\x80\x80\x80\x80\x80\x80\x80\x02\x01\x00",
		strings.Repeat("\x80", 1000), "\x01" + strings.Repeat("\x80", 1000), strings.Repeat("\xff", 1000), "{1|}",
	} {
		if l, n, e := label.Of(s); !none(l) || n != 0 || e != api.ErrLabel {
			t.Errorf("%q: %v %d %v", s, l, n, e)
		}
	}
}

// unwire is what Of must answer, by the library's own numbers: a number that isn't the shortest isn't written as it was read.
func unwire(s string) (l api.Label, size int, ok bool) {
	at := 0
	read := func() (int, bool) {
		n, size := binary.Uvarint([]byte(s[at:]))
		if size <= 0 || string(binary.AppendUvarint(nil, n)) != s[at:at+size] || n > math.MaxInt32 {
			return 0, false
		}
		at += size
		return int(n), true
	}
	for _, set := range []*[]int{&l.S, &l.I} {
		many, ok := read()
		if !ok {
			return api.Label{}, 0, false
		}
		last := 0
		for len(*set) < many {
			by, ok := read()
			if !ok {
				return api.Label{}, 0, false
			}
			last += by
			*set = append(*set, last)
		}
	}
	if label.Check(l) != api.OK {
		return api.Label{}, 0, false
	}
	return l, at, true
}

// TestOfAll holds Of against unwire on all short texts of bytes that matter.
func TestOfAll(t *testing.T) {
	alphabet := "\x00\x01\x02\x07\x08\x7f\x80\x81\xff"
	var good int
	var try func(s string, left int)
	try = func(s string, left int) {
		l, n, e := label.Of(s)
		want, size, ok := unwire(s)
		if (e == api.OK) != ok || e != api.OK && e != api.ErrLabel || n != size || !equal(l, want) {
			t.Fatalf("%q: %v %d %v; want %v %d %v", s, l, n, e, want, size, ok)
		}
		if ok {
			good++
		}
		if left == 0 {
			return
		}
		for i := range len(alphabet) {
			try(s+alphabet[i:i+1], left-1)
		}
	}
	try("", 6)
	for i := range len(alphabet) {
		try("\x01\xff\xff\xff\xff"+alphabet[i:i+1], 2)
		try("\x02\xfe\xff\xff\xff"+alphabet[i:i+1], 2)
		try("\x02\x01\xff\xff\xff\xff"+alphabet[i:i+1], 2)
	}
	if good < 1000 {
		t.Error("too few of them are labels", good)
	}
}

func TestPrint(t *testing.T) {
	for _, c := range []struct {
		l    api.Label
		want string
	}{
		{of(nil, nil), "{|}"},
		{of([]int{1, 3}, []int{2}), "{1,3|2}"},
		{of(nil, []int{10, 200}), "{|10,200}"},
		{of([]int{api.MaxCat}, nil), "{2147483647|}"},
	} {
		if s, e := label.Print(c.l); s != c.want || e != api.OK {
			t.Errorf("%v %q %v", c.l, s, e)
		}
	}
}

// TestParsePrint: there and back; nothing may stand ahead of the text, behind it, or be missing at its end.
func TestParsePrint(t *testing.T) {
	for _, l := range append(goodLabels(), small()...) {
		s, e := label.Print(l)
		if e != api.OK {
			t.Fatal(l, e)
		}
		if got, e := label.Parse(s); !equal(got, l) || e != api.OK {
			t.Fatal(s, got, e)
		}
		wrong := []string{s + " ", s + "}", s + "\n", s + "\x00", s + s, " " + s, "{" + s, s[1:]}
		for n := range len(s) {
			wrong = append(wrong, s[:n])
		}
		for _, w := range wrong {
			if got, e := label.Parse(w); !none(got) || e != api.ErrLabel {
				t.Fatalf("%q: %v %v", w, got, e)
			}
		}
	}
}

func TestParseWrong(t *testing.T) {
	text := func(n int) string {
		var out []string
		for _, c := range upTo(n) {
			out = append(out, strconv.Itoa(c))
		}
		return strings.Join(out, ",")
	}
	var parts []string
	for _, s := range []string{
		"0", "00", "01", "-1", "+1", "1.", "1e1", "0x1", "1_0", " 1", "1 ", "1, 2", "\t1", "a", "١", "{1}", "{", "}", "|", "||", "1|2", ":", "/", "1:", "1/",
		",", ",1", "1,", "1,,2", "1,2,", "1;2", "3,1", "1,1", "1,2,2", "1,0", "0,1", "1,02",
		"2147483648", "1,2147483648", "9999999999", "4294967297", "18446744073709551617", "100000000000000000000000000000000000001",
		strings.Repeat("9", 18), strings.Repeat("1", 5000), strings.Repeat("0", 5000) + "1", text(65), text(5000), text(64) + ",", strings.Repeat(",", 5000),
	} {
		parts = append(parts, "{"+s+"|}", "{|"+s+"}", "{1|"+s+"}", "{"+s+"|1}")
	}
	for _, s := range append(parts, "", "{", "}", "|", "{}", "{|", "|}", "{1", "1|", "{1}", "{1,2}", "1|2", "[1|2]", "{1/2}", "}1|2{", "\x00\x00") {
		if l, e := label.Parse(s); !none(l) || e != api.ErrLabel {
			t.Errorf("%q: %v %v", s, l, e)
		}
	}
	for _, s := range []string{"{" + text(64) + "|}", "{|" + text(64) + "}", "{2147483646,2147483647|2147483647}"} {
		l, e := label.Parse(s)
		if back, _ := label.Print(l); back != s || e != api.OK {
			t.Errorf("%q: %v %v", s, l, e)
		}
	}
}

// TestParseAll holds Parse against the grammar on all short texts of bytes that matter.
func TestParseAll(t *testing.T) {
	grammar := regexp.MustCompile(`^\{((?:[1-9][0-9]*(?:,[1-9][0-9]*)*)?)\|((?:[1-9][0-9]*(?:,[1-9][0-9]*)*)?)\}$`)
	numbers := func(s string) []int {
		var out []int
		for _, p := range strings.FieldsFunc(s, func(r rune) bool { return r == ',' }) {
			n, _ := strconv.Atoi(p)
			out = append(out, n)
		}
		return out
	}
	ask := func(s string) {
		l, e := label.Parse(s)
		var want api.Label
		m := grammar.FindStringSubmatch(s)
		ok := m != nil
		if ok {
			want = of(numbers(m[1]), numbers(m[2]))
			ok = label.Check(want) == api.OK
		}
		if ok && (e != api.OK || !equal(l, want)) || !ok && (e != api.ErrLabel || !none(l)) {
			t.Fatalf("%q: %v %v", s, l, e)
		}
	}
	alphabet := "{|},012-"
	var try func(s string, left int)
	try = func(s string, left int) {
		ask(s)
		ask("{" + s + "}")
		if left == 0 {
			return
		}
		for i := range len(alphabet) {
			try(s+alphabet[i:i+1], left-1)
		}
	}
	try("", 5)
}

// free tells whether something flows by itself.
func free(t *testing.T, a, b api.Label) bool {
	got, e := label.Flows(a, b, nil)
	if e != api.OK && e != api.ErrDeny || len(got) != 0 {
		t.Fatal(a, b, got, e)
	}
	return e == api.OK
}

// TestOrder: flowing by itself is an order, and Join and Meet are the nearest bounds in it.
func TestOrder(t *testing.T) {
	all := small()
	var to [64][64]bool
	for i, a := range all {
		for j, b := range all {
			to[i][j] = free(t, a, b)
		}
	}
	place := func(l api.Label) int {
		return slices.IndexFunc(all, func(x api.Label) bool { return equal(x, l) })
	}
	for i, a := range all {
		if !to[i][i] {
			t.Error("not reflexive", a)
		}
		for j, b := range all {
			if same, _ := label.Same(a, b); to[i][j] && to[j][i] != same {
				t.Error("both ways", a, b)
			}
			join, _ := label.Join(a, b)
			meet, _ := label.Meet(a, b)
			up, down := place(join), place(meet)
			if !to[i][up] || !to[j][up] || !to[down][i] || !to[down][j] {
				t.Error("no bound", a, b, join, meet)
			}
			for k, c := range all {
				if to[i][j] && to[j][k] && !to[i][k] {
					t.Error("not transitive", a, b, c)
				}
				if to[i][k] && to[j][k] && !to[up][k] || to[k][i] && to[k][j] && !to[k][down] {
					t.Error("not the nearest", a, b, c)
				}
			}
		}
	}
}

// TestOrderGreat: the same of labels at the edges, where Join and Meet may be full.
func TestOrderGreat(t *testing.T) {
	all := goodLabels()
	for _, a := range all {
		for _, b := range all {
			forth, back := free(t, a, b), free(t, b, a)
			if same, e := label.Same(a, b); (forth && back) != same || e != api.OK {
				t.Fatal("both ways", a, b)
			}
			if join, e := label.Join(a, b); e == api.OK && (!free(t, a, join) || !free(t, b, join) || label.Check(join) != api.OK) {
				t.Fatal("Join", a, b)
			}
			if meet, e := label.Meet(a, b); e == api.OK && (!free(t, meet, a) || !free(t, meet, b) || label.Check(meet) != api.OK) {
				t.Fatal("Meet", a, b)
			}
		}
	}
}

// TestMoreOwned: by more that is owned whatever flowed flows, and lacks the same.
func TestMoreOwned(t *testing.T) {
	all := small()
	for _, a := range all {
		for _, b := range all {
			for own := range 8 {
				lacks, e := label.Flows(a, b, subset(own))
				if e != api.OK {
					continue
				}
				for more := range 8 {
					if got, e := label.Flows(a, b, append(subset(own|more), 9, api.MaxCat)); e != api.OK || !slices.Equal(got, lacks) {
						t.Fatal(a, b, subset(own), subset(own|more), got, e)
					}
				}
			}
		}
	}
}

func TestExamples(t *testing.T) {
	l, e := label.Parse("{1,3|2}")
	if e != api.OK || !equal(l, of([]int{1, 3}, []int{2})) {
		t.Fatal(l, e)
	}
	to, _ := label.Parse("{1,3,5|}")
	if got, e := label.Flows(l, to, nil); len(got) != 0 || e != api.OK {
		t.Error(got, e)
	}
	to, _ = label.Parse("{1|}")
	if got, e := label.Flows(l, to, []int{3}); !slices.Equal(got, []int{3}) || e != api.OK {
		t.Error(got, e)
	}
	if got, e := label.Flows(l, to, nil); len(got) != 0 || e != api.ErrDeny {
		t.Error(got, e)
	}
}

// roomy is a list with something behind its end that must be neither read nor changed.
func roomy(l []int) []int {
	out := append(slices.Clone(l), 7, 0, -1, api.MaxCat+1, 5)
	return out[:len(l)]
}

// TestArguments: what is handed in stays as it is, with the room behind it, and the answers hang on neither that room nor on what is done to the arguments later.
func TestArguments(t *testing.T) {
	sets := [][]int{nil, {}, {2}, {1, 2}, {1, 4, 6}, {3, 8}, {2, 1}, {0}}
	for _, s := range sets {
		for _, i := range sets {
			for _, own := range sets {
				a, b, o := of(roomy(s), roomy(i)), of(roomy(own), roomy(s)), roomy(own)
				lists := [][]int{a.S, a.I, b.S, b.I, o}
				var before [][]int
				for _, l := range lists {
					before = append(before, slices.Clone(l[:cap(l)]))
				}
				lacks, e1 := label.Flows(a, b, o)
				join, e2 := label.Join(a, b)
				meet, e3 := label.Meet(a, b)
				label.Same(a, b)
				label.Check(a)
				label.Print(a)
				label.Bytes(a)
				for n, l := range lists {
					if !slices.Equal(l[:cap(l)], before[n]) {
						t.Fatal("changed", n, l[:cap(l)], before[n])
					}
				}
				want, f1 := label.Flows(of(s, i), of(own, s), own)
				up, f2 := label.Join(of(s, i), of(own, s))
				down, f3 := label.Meet(of(s, i), of(own, s))
				for _, l := range lists {
					l = l[:cap(l)]
					for n := range l {
						l[n] = 99
					}
				}
				if e1 != f1 || e2 != f2 || e3 != f3 || !slices.Equal(lacks, want) || !equal(join, up) || !equal(meet, down) {
					t.Fatal(s, i, own, lacks, join, meet)
				}
			}
		}
	}
}

// scribble fills a list and its spare room.
func scribble(l []int) {
	l = l[:cap(l)]
	for n := range l {
		l[n] = 99
	}
}

// TestAnswers: an answer's lists share nothing with one another, nor with the arguments, their spare room too.
func TestAnswers(t *testing.T) {
	for _, s := range [][]int{nil, {1}, {1, 2, 3}, upTo(5), upTo(33), upTo(64)} {
		for _, i := range [][]int{nil, {1}, {1, 2, 3}, upTo(64)} {
			a := of(slices.Clone(s), slices.Clone(i))
			join, _ := label.Join(a, a)
			meet, _ := label.Meet(a, a)
			read, _, _ := label.Of(wire(a))
			text, _ := label.Print(a)
			parsed, _ := label.Parse(text)
			for n, l := range []api.Label{join, meet, read, parsed} {
				scribble(l.S)
				if !equal(of(nil, l.I), of(nil, i)) {
					t.Error("S and I share", n, l)
				}
				scribble(l.I)
				if !equal(a, of(s, i)) {
					t.Error("an argument is shared", n, a)
				}
			}
			lacks, _ := label.Flows(a, of(nil, nil), s)
			if !slices.Equal(lacks, s) {
				t.Error(lacks)
			}
			scribble(lacks)
			lacks, _ = label.Flows(of(nil, nil), of(nil, a.I), i)
			scribble(lacks)
			if !equal(a, of(s, i)) {
				t.Error("what is lacked is shared", a)
			}
		}
	}
}
