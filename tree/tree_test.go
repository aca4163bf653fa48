package tree_test

import (
	"cloister/api"
	"cloister/tree"
	"maps"
	"math"
	"slices"
	"strconv"
	"strings"
	"testing"
)

var orders = []int{2, 3, 4, 5, 7, 16, 63, 64}

func made[V any](t *testing.T, order int) *tree.Tree[V] {
	t.Helper()
	x, e := tree.New[V](order)
	if e != api.OK || x == nil {
		t.Fatalf("New(%d): %v %v", order, x, e)
	}
	return x
}

// filled is a tree whose keys hold their places in the list.
func filled(t *testing.T, order int, keys []string) *tree.Tree[int] {
	t.Helper()
	x := made[int](t, order)
	for i, k := range keys {
		if !x.Put(k, i) {
			t.Fatalf("order %d: Put(%q)", order, k)
		}
	}
	return x
}

// numbered are so many keys, rising.
func numbered(n int) []string {
	keys := make([]string, n)
	for i := range keys {
		keys[i] = strconv.Itoa(100000 + i)
	}
	return keys
}

// draws are numbers that look drawn, the same ones each time.
func draws(seed uint64) func(below int) int {
	return func(below int) int {
		seed = seed*6364136223846793005 + 1442695040888963407
		return int(seed >> 33 % uint64(below))
	}
}

func mixed(keys []string, seed uint64) []string {
	keys = slices.Clone(keys)
	draw := draws(seed)
	for i := len(keys) - 1; i > 0; i-- {
		j := draw(i + 1)
		keys[i], keys[j] = keys[j], keys[i]
	}
	return keys
}

func reversed(keys []string) []string {
	keys = slices.Clone(keys)
	slices.Reverse(keys)
	return keys
}

// orderings are the same keys rising, falling, mixed, and from both ends.
func orderings(keys []string) map[string][]string {
	ends := []string{}
	for i := range keys {
		if i%2 == 0 {
			ends = append(ends, keys[i/2])
		} else {
			ends = append(ends, keys[len(keys)-1-i/2])
		}
	}
	return map[string][]string{"rising": keys, "falling": reversed(keys), "mixed": mixed(keys, 1), "mixed again": mixed(keys, 77), "from both ends": ends, "from the middle": reversed(ends)}
}

// between is a range as the document says it, of what a map holds.
func between[V any](held map[string]V, from, to string, most int) []api.Item[V] {
	var out []api.Item[V]
	for _, k := range slices.Sorted(maps.Keys(held)) {
		if k >= from && (to == "" || k < to) && len(out) < most {
			out = append(out, api.Item[V]{Key: k, Value: held[k]})
		}
	}
	return out
}

func handedOut[V any](x *tree.Tree[V]) []api.Item[V] {
	var out []api.Item[V]
	for k, v := range x.All() {
		out = append(out, api.Item[V]{Key: k, Value: v})
	}
	return out
}

// deepEnough tells whether a tree of an order may have that depth: each node
// has at most 2 o - 1 keys, each but the topmost one at least o - 1.
func deepEnough(order, depth, keys int) bool {
	if keys == 0 || depth < 1 {
		return keys == 0 && depth == 0
	}
	least, most := 2, 1
	for range depth - 1 {
		least *= order
	}
	for range depth {
		most *= 2 * order
	}
	if depth == 1 {
		return keys <= most-1
	}
	return keys >= least-1 && keys <= most-1
}

// measures holds the two numbers that a tree tells against how many keys hold
// something.
func measures[V any](t *testing.T, what string, x *tree.Tree[V], order, keys int) {
	t.Helper()
	if x.Len() != keys || !deepEnough(order, x.Depth(), keys) {
		t.Fatalf("%s: order %d, %d keys: Len %d, Depth %d", what, order, keys, x.Len(), x.Depth())
	}
}

// stands holds all that a tree tells against what it should hold.
func stands[V comparable](t *testing.T, what string, x *tree.Tree[V], order int, held map[string]V) {
	t.Helper()
	measures(t, what, x, order, len(held))
	want := between(held, "", "", len(held))
	if got := handedOut(x); !slices.Equal(got, want) {
		t.Fatalf("%s: order %d: All %v, not %v", what, order, got, want)
	}
	if got := x.Range("", "", len(held)+1); !slices.Equal(got, want) {
		t.Fatalf("%s: order %d: Range %v, not %v", what, order, got, want)
	}
	for k, v := range held {
		if got, ok := x.Get(k); got != v || !ok {
			t.Fatalf("%s: order %d: Get(%q): %v %v, not %v", what, order, k, got, ok, v)
		}
	}
}

func TestExamples(t *testing.T) {
	x := made[string](t, 2)
	for _, k := range []string{"b", "a", "c"} {
		if !x.Put(k, "of "+k) {
			t.Error("Put", k)
		}
	}
	if got := x.Range("b", "", 9); !slices.Equal(got, []api.Item[string]{{Key: "b", Value: "of b"}, {Key: "c", Value: "of c"}}) {
		t.Error(got)
	}
	if !x.Del("b") || x.Del("b") || x.Depth() != 1 {
		t.Error("Del of b; Depth", x.Depth())
	}
	stands(t, "the example", x, 2, map[string]string{"a": "of a", "c": "of c"})
}

func TestOrders(t *testing.T) {
	for _, order := range []int{math.MinInt, -1 << 32, -64, -2, -1, 0, 1, 65, 66, 128, 1 << 16, 1<<32 + 2, math.MaxInt} {
		if x, e := tree.New[int](order); x != nil || e != api.ErrArg {
			t.Errorf("New(%d): %v %v", order, x, e)
		}
		if x, e := tree.New[string](order); x != nil || e != api.ErrArg {
			t.Errorf("New(%d) of texts: %v %v", order, x, e)
		}
	}
	if api.MaxOrder != 64 {
		t.Error("MaxOrder:", api.MaxOrder)
	}
	for order := 2; order <= 64; order++ {
		x := made[int](t, order)
		stands(t, "a new tree", x, order, nil)
		if v, ok := x.Get(""); v != 0 || ok || x.Del("") || x.Del("a") {
			t.Errorf("order %d: a new tree holds something", order)
		}
		// As many keys as one node may have, and one more.
		for i, k := range numbered(2 * order) {
			depth := 1
			if i == 2*order-1 {
				depth = 2
			}
			if !x.Put(k, i) || x.Depth() != depth {
				t.Errorf("order %d: Put of %d keys: Depth %d", order, i+1, x.Depth())
			}
		}
	}
}

// Keys stand by their bytes, whatever they are.
func TestKeys(t *testing.T) {
	keys := []string{"", "\x00", "\x00\x00", "\x00\xff", "\x01", "A", "Z", "a", "a\x00", "a\x00b", "aa", "ab", "abc", "b", "\x7f", "\x80", "ä", "\xc3", "\xff", "\xff\x00", "\xff\xff", "\xff\xff\xff", strings.Repeat("a", 1000), strings.Repeat("\xff", 70000), "1", "10", "2"}
	for _, order := range orders {
		for name, list := range orderings(keys) {
			x, held := made[int](t, order), map[string]int{}
			for i, k := range list {
				if v, ok := x.Get(k); v != 0 || ok {
					t.Fatalf("%s: Get(%q) ahead of Put: %d %v", name, k, v, ok)
				}
				if !x.Put(k, i+1) {
					t.Fatalf("%s: Put(%q)", name, k)
				}
				held[k] = i + 1
				stands(t, name, x, order, held)
			}
			for _, from := range keys {
				for _, to := range keys {
					if got, want := x.Range(from, to, 99), between(held, from, to, 99); !slices.Equal(got, want) {
						t.Fatalf("Range(%q, %q): %v, not %v", from, to, got, want)
					}
				}
			}
			for _, k := range list {
				if !x.Del(k) || x.Del(k) {
					t.Fatalf("%s: Del(%q)", name, k)
				}
				delete(held, k)
				stands(t, name, x, order, held)
			}
		}
	}
}

// Put of a key that holds something: what it held is gone, and nothing else is
// told, wherever in the tree the key stands.
func TestPutAgain(t *testing.T) {
	for _, order := range orders {
		for n := 1; n <= 9*order; n += order - 1 {
			keys := mixed(numbered(n), uint64(n))
			x, held := filled(t, order, keys), map[string]int{}
			depth := x.Depth()
			for i, k := range keys {
				held[k] = i
			}
			for i, k := range reversed(keys) {
				if x.Put(k, -i) || x.Put(k, -i) || x.Depth() != depth {
					t.Fatalf("order %d: Put of %q again; Depth %d, not %d", order, k, x.Depth(), depth)
				}
				held[k] = -i
			}
			stands(t, "put again", x, order, held)
		}
	}
}

// All ways of filling a tree and of emptying it: Len and Depth at each call.
func TestFillAndEmpty(t *testing.T) {
	for _, order := range orders {
		sizes := []int{1, 2, order, 2*order - 1, 2 * order, 5 * order, 300}
		if order < 8 {
			sizes = append(sizes, 1000)
		} else {
			// One more than a tree of Depth 2 may have: the topmost node parts twice.
			sizes = append(sizes, 4*order*order)
		}
		for _, n := range sizes {
			keys := numbered(n)
			ways := orderings(keys)
			for inName, in := range ways {
				x := made[int](t, order)
				for i, k := range in {
					if !x.Put(k, i) {
						t.Fatalf("order %d, %s: Put(%q)", order, inName, k)
					}
					measures(t, inName, x, order, i+1)
				}
				for outName, out := range ways {
					empties(t, order, inName+", "+outName, x.Copy(), in, out)
				}
			}
		}
	}
}

// empties takes all keys out one by one; then the tree is used again.
func empties(t *testing.T, order int, what string, x *tree.Tree[int], in, out []string) {
	t.Helper()
	place := map[string]int{}
	for i, k := range in {
		place[k] = i
	}
	for i, k := range out {
		if v, ok := x.Get(k); v != place[k] || !ok {
			t.Fatalf("order %d, %s: Get(%q): %d %v", order, what, k, v, ok)
		}
		if !x.Del(k) {
			t.Fatalf("order %d, %s: Del(%q)", order, what, k)
		}
		if v, ok := x.Get(k); v != 0 || ok {
			t.Fatalf("order %d, %s: Get(%q) behind Del: %d %v", order, what, k, v, ok)
		}
		measures(t, what, x, order, len(out)-i-1)
		if i == len(out)/2 {
			left := map[string]int{}
			for _, k := range out[i+1:] {
				left[k] = place[k]
			}
			stands(t, what+", half emptied", x, order, left)
		}
	}
	if x.Del(out[0]) || x.Depth() != 0 || x.Len() != 0 || len(handedOut(x)) != 0 {
		t.Fatalf("order %d, %s: not emptied", order, what)
	}
	for i, k := range out {
		if !x.Put(k, i) {
			t.Fatalf("order %d, %s: Put(%q) into what was emptied", order, what, k)
		}
	}
	measures(t, what+", filled again", x, order, len(out))
}

// Each key of a tree is the first one to be taken out once: those of the
// topmost node and of each depth below it.
func TestDelEach(t *testing.T) {
	for _, order := range []int{2, 3, 5, 64} {
		for _, n := range []int{1, 2, 2*order - 1, 2 * order, 4*order*order - 1, 4 * order * order} {
			n = min(n, 300)
			for name, keys := range orderings(numbered(n)) {
				x, held := filled(t, order, keys), map[string]int{}
				for i, k := range keys {
					held[k] = i
				}
				for i, k := range keys {
					c := x.Copy()
					if !c.Del(k) || c.Del(k) {
						t.Fatalf("order %d, %s: Del(%q)", order, name, k)
					}
					delete(held, k)
					stands(t, name, c, order, held)
					held[k] = i
				}
			}
		}
	}
}

// All orders of a few keys, in and out.
func TestAllOrders(t *testing.T) {
	var all [][]string
	var arrange func(done, left []string)
	arrange = func(done, left []string) {
		if len(left) == 0 {
			all = append(all, slices.Clone(done))
		}
		for i, k := range left {
			arrange(append(slices.Clone(done), k), slices.Delete(slices.Clone(left), i, i+1))
		}
	}
	arrange(nil, []string{"", "a", "b", "c", "d", "e", "f", "g"})
	for i, in := range all {
		out := all[(i*7919+13)%len(all)]
		x := filled(t, 2, in)
		measures(t, "all orders", x, 2, 8)
		if got := x.Range("", "", 9); len(got) != 8 || !slices.IsSortedFunc(got, func(a, b api.Item[int]) int { return strings.Compare(a.Key, b.Key) }) {
			t.Fatalf("%q: %v", in, got)
		}
		for j, k := range out {
			if !x.Del(k) {
				t.Fatalf("%q in, %q out: Del(%q)", in, out, k)
			}
			measures(t, "all orders", x, 2, 7-j)
			rest := slices.Sorted(slices.Values(out[j+1:]))
			for n, it := range x.Range("", "", 9) {
				if n >= len(rest) || it.Key != rest[n] || in[it.Value] != it.Key {
					t.Fatalf("%q in, %q out, behind %q: %v at %d", in, out, k, it, n)
				}
			}
		}
	}
}

// Long scripts of drawn calls, at fewer and at more keys in turns.
func TestScripts(t *testing.T) {
	for _, order := range orders {
		for seed := range uint64(4) {
			draw := draws(seed*31 + uint64(order))
			x, held := made[int](t, order), map[string]int{}
			twin := made[int](t, order)
			for i := range 6000 {
				k := strconv.Itoa(draw(60 * order))
				_, there := held[k]
				if draw(10) < 3+4*(i/1500%2) {
					if x.Del(k) != there || twin.Del(k) != there {
						t.Fatalf("order %d, seed %d, call %d: Del(%q), there: %v", order, seed, i, k, there)
					}
					delete(held, k)
				} else {
					if x.Put(k, i) == there || twin.Put(k, i) == there {
						t.Fatalf("order %d, seed %d, call %d: Put(%q), there: %v", order, seed, i, k, there)
					}
					held[k] = i
				}
				measures(t, "a script", x, order, len(held))
				if x.Depth() != twin.Depth() {
					t.Fatalf("order %d, seed %d, call %d: the same calls, another depth", order, seed, i)
				}
				if i%97 == 0 {
					stands(t, "a script", x, order, held)
				}
			}
		}
	}
}

// Tr2 and Tr4: ranges of each part, and parts of ranges.
func TestRanges(t *testing.T) {
	for _, order := range []int{2, 3, 64} {
		for _, n := range []int{0, 1, 2, 2*order - 1, 40, 300} {
			x, held := made[int](t, order), map[string]int{}
			for i, k := range mixed(numbered(n), 5) {
				x.Put(k, i)
				held[k] = i
			}
			edges := []string{"", "\x00", "1", "100000", "100000\x00", "100001", "10001", "100019", "10002", "100020", "100039", "10004", "100299", "1003", "2", "\xff"}
			for _, from := range edges {
				for _, to := range edges {
					whole := between(held, from, to, math.MaxInt)
					if from >= to && to != "" && len(whole) != 0 {
						t.Fatal("the test itself")
					}
					for _, most := range []int{math.MinInt, -7, -1, 0, 1, 2, len(whole) - 1, len(whole), len(whole) + 1, math.MaxInt32, math.MaxInt} {
						want := whole[:max(0, min(most, len(whole)))]
						if got := x.Range(from, to, most); !slices.Equal(got, want) {
							t.Fatalf("order %d, %d keys: Range(%q, %q, %d): %v, not %v", order, n, from, to, most, got, want)
						}
					}
					for _, cut := range edges {
						if cut == "" || cut < from || to != "" && cut > to {
							continue
						}
						parts := slices.Concat(x.Range(from, cut, n), x.Range(cut, to, n))
						if !slices.Equal(parts, whole) {
							t.Fatalf("order %d, %d keys: %q to %q, cut at %q: %v", order, n, from, to, cut, parts)
						}
					}
				}
			}
			if !slices.Equal(handedOut(x), x.Range("", "", n)) {
				t.Errorf("order %d, %d keys: All is not the whole range", order, n)
			}
		}
	}
}

// A range that goes on where the last part ended comes to the whole.
func TestRangePartByPart(t *testing.T) {
	for _, order := range orders {
		x := filled(t, order, mixed(numbered(777), 3))
		whole := x.Range("", "", 777)
		for _, most := range []int{1, 2, 10, 776} {
			var got []api.Item[int]
			from := ""
			for {
				part := x.Range(from, "", most)
				if len(part) == 0 {
					break
				}
				got = append(got, part...)
				from = part[len(part)-1].Key + "\x00"
			}
			if len(got) != 777 || !slices.Equal(got, whole) {
				t.Errorf("order %d, by %d: %d items", order, most, len(got))
			}
		}
	}
}

func TestAllStoppedEarly(t *testing.T) {
	for _, order := range []int{2, 3, 64} {
		x := filled(t, order, mixed(numbered(200), 9))
		whole := x.Range("", "", 200)
		seq := x.All()
		for stop := 1; stop <= 200; stop++ {
			var got []api.Item[int]
			for k, v := range seq {
				got = append(got, api.Item[int]{Key: k, Value: v})
				if len(got) == stop {
					break
				}
			}
			if !slices.Equal(got, whole[:stop]) {
				t.Fatalf("order %d, stopped at %d: %v", order, stop, got)
			}
		}
		calls := 0
		seq(func(string, int) bool {
			calls++
			return calls < 3
		})
		if calls != 3 {
			t.Errorf("order %d: %d were handed out, 3 wanted", order, calls)
		}
		seq(nil)
		made[int](t, order).All()(nil)
	}
}

// What is done to the tree meanwhile does not change what is handed out.
func TestAllMeanwhile(t *testing.T) {
	changes := map[string]func(x *tree.Tree[int], k string){
		"taken out":      func(x *tree.Tree[int], k string) { x.Del(k) },
		"next taken out": func(x *tree.Tree[int], k string) { x.Del(k[:5] + "9") },
		"put ahead":      func(x *tree.Tree[int], k string) { x.Put("0"+k, 1) },
		"put behind":     func(x *tree.Tree[int], k string) { x.Put(k+"\x00", 1); x.Put("9"+k, 2) },
		"put again": func(x *tree.Tree[int], k string) {
			for _, it := range x.Range("", "", 400) {
				x.Put(it.Key, -1)
			}
		},
		"emptied": func(x *tree.Tree[int], k string) {
			for _, it := range x.Range("", "", 400) {
				x.Del(it.Key)
			}
		},
	}
	for name, change := range changes {
		for _, order := range []int{2, 3, 64} {
			x := filled(t, order, mixed(numbered(150), 4))
			whole, seq := x.Range("", "", 150), x.All()
			var got []api.Item[int]
			for k, v := range seq {
				got = append(got, api.Item[int]{Key: k, Value: v})
				change(x, k)
			}
			if !slices.Equal(got, whole) {
				t.Errorf("%s, order %d: %v", name, order, got)
			}
			// The same again, when the tree is another one already.
			got = nil
			for k, v := range seq {
				got = append(got, api.Item[int]{Key: k, Value: v})
			}
			if !slices.Equal(got, whole) {
				t.Errorf("%s, order %d, again: %v", name, order, got)
			}
			if slices.Equal(handedOut(x), whole) {
				t.Errorf("%s, order %d: the tree has not changed", name, order)
			}
		}
	}
}

// One range inside another one, and a range that is left by a panic.
func TestAllWithin(t *testing.T) {
	x := filled(t, 2, numbered(20))
	n, seq := 0, x.All()
	for a := range seq {
		for b := range seq {
			if a < b {
				n++
			}
		}
	}
	if n != 190 {
		t.Error(n)
	}
	func() {
		defer func() {
			if recover() != "left" {
				t.Error("the panic of who ranges did not come through")
			}
		}()
		for range seq {
			panic("left")
		}
	}()
	if x.Len() != 20 || len(handedOut(x)) != 20 {
		t.Error("behind a panic:", x.Len())
	}
}

// R1: trees that New or Copy did not give.
func TestTreesOfNobody(t *testing.T) {
	x := filled(t, 2, numbered(30))
	byValue := *x
	byMove := new(tree.Tree[int])
	*byMove = *x.Copy()
	key := numbered(1)[0]
	for i, z := range []*tree.Tree[int]{nil, {}, new(tree.Tree[int]), &byValue, byMove} {
		for range 2 {
			if z.Put("new", 1) || z.Put(key, 1) || z.Del(key) || z.Del("") || z.Len() != 0 || z.Depth() != 0 || z.Copy() != nil {
				t.Errorf("%d: Len %d, Depth %d, Copy %v", i, z.Len(), z.Depth(), z.Copy())
			}
			if v, ok := z.Get(key); v != 0 || ok {
				t.Errorf("%d: Get: %d %v", i, v, ok)
			}
			if l := z.Range("", "", 9); l != nil {
				t.Errorf("%d: Range: %v", i, l)
			}
			for k, v := range z.All() {
				t.Errorf("%d: All: %q %d", i, k, v)
			}
			z.All()(nil)
		}
	}
	if x.Len() != 30 || len(handedOut(x)) != 30 {
		t.Error("the tree itself:", x.Len())
	}
	var none *tree.Tree[[]string]
	if v, ok := none.Get("a"); v != nil || ok || none.Put("a", nil) || none.Copy() != nil || none.Range("", "", 1) != nil {
		t.Error("no tree of lists")
	}
}

// R2: a Del of what is not there changes nothing that a later call could tell:
// all calls behind it answer as they do without it, Depth too.
func TestRefused(t *testing.T) {
	for _, order := range []int{2, 3, 4, 64} {
		plain, x := made[int](t, order), made[int](t, order)
		held := map[string]int{}
		draw := draws(uint64(order))
		for i := range 3000 {
			k := strconv.Itoa(draw(20 * order))
			if draw(9) < 4 {
				if plain.Del(k) != x.Del(k) {
					t.Fatalf("order %d, call %d: Del(%q)", order, i, k)
				}
				delete(held, k)
			} else {
				if plain.Put(k, i) != x.Put(k, i) {
					t.Fatalf("order %d, call %d: Put(%q)", order, i, k)
				}
				held[k] = i
			}
			for range 5 {
				if k := strconv.Itoa(draw(20*order)) + "x"; x.Del(k) {
					t.Fatalf("order %d: Del(%q)", order, k)
				}
			}
			if x.Depth() != plain.Depth() || x.Len() != plain.Len() {
				t.Fatalf("order %d, call %d: Depth %d, not %d", order, i, x.Depth(), plain.Depth())
			}
		}
		stands(t, "behind what was refused", x, order, held)
	}
}

// R3: what Range answers is new memory, its spare room too.
func TestMemory(t *testing.T) {
	for _, order := range []int{2, 64} {
		for n := range 40 {
			x, held := made[int](t, order), map[string]int{}
			for i, k := range numbered(n) {
				x.Put(k, i+1)
				held[k] = i + 1
			}
			first, second := x.Range("", "", n), x.Range("", "", n)
			seq := x.All()
			for _, it := range first[len(first):cap(first)] {
				if it.Key != "" || it.Value != 0 {
					t.Error("something lies in the spare room:", it)
				}
			}
			first = first[:cap(first)]
			for i := range first {
				first[i] = api.Item[int]{Key: "spoilt", Value: -7}
			}
			stands(t, "behind a change of what Range answered", x, order, held)
			want := between(held, "", "", n)
			var got []api.Item[int]
			for k, v := range seq {
				got = append(got, api.Item[int]{Key: k, Value: v})
			}
			if !slices.Equal(second, want) || !slices.Equal(got, want) {
				t.Error("another answer:", second, got)
			}
			for k := range held {
				x.Put(k, -1)
				x.Put(k+"+", -2)
				x.Del(k)
			}
			if !slices.Equal(second, want) {
				t.Error("an answer behind changes of the tree:", second)
			}
		}
	}
}

// R4: Copy stands as the tree does; neither knows of the other; both go on
// alike at like calls.
func TestCopy(t *testing.T) {
	for _, order := range []int{2, 3, 4, 64} {
		draw := draws(uint64(100 + order))
		x, held := made[int](t, order), map[string]int{}
		for i := range 60 {
			for range order {
				k := strconv.Itoa(draw(15 * order))
				x.Put(k, i)
				held[k] = i
				if k = strconv.Itoa(draw(15 * order)); draw(3) > 0 {
					x.Del(k)
					delete(held, k)
				}
			}
			c, d := x.Copy(), x.Copy()
			stands(t, "Copy", c, order, held)
			if c == x || c.Depth() != x.Depth() {
				t.Fatalf("order %d: Copy has the depth %d, not %d", order, c.Depth(), x.Depth())
			}
			other := maps.Clone(held)
			for j := range 5 * order {
				k := strconv.Itoa(draw(15 * order))
				if j%2 == 0 {
					if c.Put(k, -j) != d.Put(k, -j) {
						t.Fatalf("order %d: copies differ at Put(%q)", order, k)
					}
					other[k] = -j
				} else {
					if c.Del(k) != d.Del(k) {
						t.Fatalf("order %d: copies differ at Del(%q)", order, k)
					}
					delete(other, k)
				}
				if c.Depth() != d.Depth() {
					t.Fatalf("order %d: copies differ in depth", order)
				}
			}
			stands(t, "Copy, changed", c, order, other)
			stands(t, "the tree, Copy being changed", x, order, held)
			later := c.Copy().Copy()
			for k := range held {
				x.Put(k, i+1000)
				held[k] = i + 1000
			}
			stands(t, "Copy, the tree being changed", c, order, other)
			for k := range other {
				c.Del(k)
			}
			stands(t, "Copy of Copy", later, order, other)
			stands(t, "Copy, emptied", c, order, nil)
			stands(t, "the tree", x, order, held)
		}
	}
}

// A copy keeps the order: it parts its nodes where the first tree does.
func TestCopyOfNothing(t *testing.T) {
	for _, order := range orders {
		c := made[int](t, order).Copy()
		stands(t, "Copy of nothing", c, order, nil)
		for i, k := range numbered(2 * order) {
			c.Put(k, i)
			if want := 1 + i/(2*order-1); c.Depth() != want {
				t.Errorf("order %d: %d keys, Depth %d", order, i+1, c.Depth())
			}
		}
	}
}

func TestTreesApart(t *testing.T) {
	a, b := filled(t, 2, numbered(9)), made[int](t, 2)
	if b.Len() != 0 || b.Depth() != 0 || !b.Put("a", 1) || a.Len() != 9 {
		t.Error("trees know of one another")
	}
	if _, ok := a.Get("a"); ok {
		t.Error("what was put into one is in the other")
	}
}

// What keys hold may be anything: nothing at all, lists, functions, much.
func TestValues(t *testing.T) {
	none := made[struct{}](t, 2)
	lists := made[[]int](t, 2)
	functions := made[func() int](t, 3)
	great := made[[1 << 12]byte](t, 2)
	for i, k := range numbered(50) {
		if !none.Put(k, struct{}{}) || !lists.Put(k, []int{i}) || !functions.Put(k, func() int { return i }) || !great.Put(k, [1 << 12]byte{1<<12 - 1: byte(i)}) {
			t.Fatal(k)
		}
	}
	if none.Put("100007", struct{}{}) || lists.Put("100007", nil) || functions.Put("100007", nil) {
		t.Error("Put again")
	}
	for i, k := range numbered(50) {
		l, ok := lists.Get(k)
		f, there := functions.Get(k)
		if !ok || !there || (i == 7) != (l == nil) || (i == 7) != (f == nil) {
			t.Error(k, l, ok, there)
		} else if i != 7 && (l[0] != i || f() != i) {
			t.Error(k, l, f())
		}
		if v, ok := great.Get(k); !ok || v[1<<12-1] != byte(i) {
			t.Error(k, ok)
		}
		if _, ok := none.Get(k); !ok {
			t.Error(k)
		}
		if !lists.Del(k) || !none.Del(k) {
			t.Error("Del", k)
		}
		if l, ok := lists.Get(k); l != nil || ok {
			t.Error(k, l, ok)
		}
	}
}

// Tr3 at many keys.
func TestManyKeys(t *testing.T) {
	for _, order := range []int{2, 64} {
		x := made[int](t, order)
		keys := mixed(numbered(120000), 8)
		for i, k := range keys {
			x.Put(k, i)
		}
		measures(t, "many keys", x, order, len(keys))
		for i, k := range keys {
			if v, ok := x.Get(k); v != i || !ok {
				t.Fatalf("order %d: Get(%q): %d %v", order, k, v, ok)
			}
		}
		for i, k := range mixed(keys, 6) {
			if !x.Del(k) {
				t.Fatalf("order %d: Del(%q)", order, k)
			}
			measures(t, "many keys", x, order, len(keys)-i-1)
		}
	}
}
