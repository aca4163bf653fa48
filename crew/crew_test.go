package crew_test

import (
	"cloister/api"
	"cloister/crew"
	"crypto/sha256"
	"encoding/hex"
	"math"
	"runtime"
	"slices"
	"strconv"
	"strings"
	"sync"
	"sync/atomic"
	"testing"
)

// crews are numbers of workers, the edges among them.
var crews = []int{1, 2, 3, 4, 7, 8, 31, 63, 64}

// noCrews are numbers of workers that are refused.
var noCrews = []int{math.MinInt, -1 << 32, -64, -2, -1, 0, 65, 66, 128, 1 << 16, 1<<32 + 1, math.MaxInt}

func twice(n int) int { return 2 * n }

func even(n int) bool { return n%2 == 0 }

// upTo are the numbers from 0 on, so many.
func upTo(count int) []int {
	l := make([]int, count)
	for i := range l {
		l[i] = i
	}
	return l
}

// calls counts how often a function was called with each number.
type calls []atomic.Int64

func (c calls) sum() (n int64) {
	for i := range c {
		n += c[i].Load()
	}
	return n
}

// salted is the digest of a salt and a word by no code of the program.
func salted(salt, word string) string {
	sum := sha256.Sum256([]byte(string([]byte{byte(len(salt))}) + salt + word))
	return hex.EncodeToString(sum[:])
}

func TestExamples(t *testing.T) {
	if l, e := crew.Map([]int{1, 2, 3}, 2, twice); e != api.OK || !slices.Equal(l, []int{2, 4, 6}) {
		t.Error("Map:", l, e)
	}
	if k, e := crew.First([]int{5, 8, 9}, 3, even); k != 1 || e != api.OK {
		t.Error("First:", k, e)
	}
	if k, e := crew.First([]int{5}, 1, even); k != 0 || e != api.ErrNone {
		t.Error("First of none:", k, e)
	}
	if l, e := crew.Map([]int{1}, 0, twice); len(l) != 0 || e != api.ErrArg {
		t.Error("Map by nobody:", l, e)
	}
}

func TestNumbersOfWorkers(t *testing.T) {
	called := false
	f := func(n int) int { called = true; return n }
	is := func(n int) bool { called = true; return true }
	one := []string{"a"}
	for _, workers := range noCrews {
		for _, in := range [][]int{nil, {1}, {1, 2, 3}} {
			if l, e := crew.Map(in, workers, f); len(l) != 0 || e != api.ErrArg {
				t.Errorf("Map(%v, %d): %v %v", in, workers, l, e)
			}
			if k, e := crew.First(in, workers, is); k != 0 || e != api.ErrArg {
				t.Errorf("First(%v, %d): %v %v", in, workers, k, e)
			}
		}
		for _, list := range [][]string{nil, one} {
			if l, e := crew.Digests(list, list, workers); len(l) != 0 || e != api.ErrArg {
				t.Errorf("Digests(%v, %d): %v %v", list, workers, l, e)
			}
			if k, e := crew.Search("s", salted("s", "a"), list, workers); k != 0 || e != api.ErrArg {
				t.Errorf("Search(%v, %d): %v %v", list, workers, k, e)
			}
		}
	}
	if called {
		t.Error("a function was called by a crew that may not be")
	}
	if api.MaxJobs != 64 {
		t.Error("MaxJobs:", api.MaxJobs)
	}
	for workers := 1; workers <= 64; workers++ {
		if l, e := crew.Map([]int{4, 5}, workers, twice); !slices.Equal(l, []int{8, 10}) || e != api.OK {
			t.Errorf("Map by %d: %v %v", workers, l, e)
		}
		if k, e := crew.First([]int{3, 4}, workers, even); k != 1 || e != api.OK {
			t.Errorf("First by %d: %v %v", workers, k, e)
		}
		if l, e := crew.Digests(one, one, workers); !slices.Equal(l, []string{salted("a", "a")}) || e != api.OK {
			t.Errorf("Digests by %d: %v %v", workers, l, e)
		}
		if k, e := crew.Search("s", salted("s", "a"), one, workers); k != 0 || e != api.OK {
			t.Errorf("Search by %d: %v %v", workers, k, e)
		}
	}
}

func TestNoFunction(t *testing.T) {
	for _, in := range [][]int{nil, {}, {1}, {1, 2, 3}} {
		for _, workers := range append([]int{0, -1, 65}, crews...) {
			if l, e := crew.Map[int, string](in, workers, nil); len(l) != 0 || e != api.ErrArg {
				t.Errorf("Map(%v, %d, nil): %v %v", in, workers, l, e)
			}
			if k, e := crew.First(in, workers, nil); k != 0 || e != api.ErrArg {
				t.Errorf("First(%v, %d, nil): %v %v", in, workers, k, e)
			}
		}
	}
}

// TestMap: each once, in order; more workers than jobs, and fewer.
func TestMap(t *testing.T) {
	for count := range 200 {
		in := upTo(count)
		want := make([]string, count)
		for i := range want {
			want[i] = strconv.Itoa(i * i)
		}
		for _, workers := range crews {
			called := make(calls, count)
			got, e := crew.Map(in, workers, func(n int) string {
				called[n].Add(1)
				return strconv.Itoa(n * n)
			})
			if e != api.OK || !slices.Equal(got, want) {
				t.Fatalf("Map of %d by %d: %v %v", count, workers, got, e)
			}
			for i := range called {
				if n := called[i].Load(); n != 1 {
					t.Fatalf("Map of %d by %d: called %d times with %d", count, workers, n, i)
				}
			}
		}
	}
}

// TestMapOfLikeOnes: what stands in a list twice is done twice.
func TestMapOfLikeOnes(t *testing.T) {
	for _, workers := range crews {
		var called atomic.Int64
		got, e := crew.Map([]string{"a", "b", "a", "", "a"}, workers, func(s string) string {
			called.Add(1)
			return s + s
		})
		if e != api.OK || !slices.Equal(got, []string{"aa", "bb", "aa", "", "aa"}) || called.Load() != 5 {
			t.Fatalf("by %d: %v %v, %d calls", workers, got, e, called.Load())
		}
	}
}

func TestMapOfOtherTypes(t *testing.T) {
	type point struct{ x, y int }
	got, e := crew.Map([]point{{1, 2}, {3, 4}}, 3, func(p point) point { return point{p.y, p.x} })
	if e != api.OK || !slices.Equal(got, []point{{2, 1}, {4, 3}}) {
		t.Error(got, e)
	}
	none, e := crew.Map(make([]struct{}, 100), 5, func(struct{}) struct{} { return struct{}{} })
	if e != api.OK || len(none) != 100 {
		t.Error(len(none), e)
	}
	lists, e := crew.Map([]int{0, 1, 2}, 2, upTo)
	if e != api.OK || len(lists) != 3 || len(lists[0]) != 0 || !slices.Equal(lists[2], []int{0, 1}) {
		t.Error(lists, e)
	}
	k, e := crew.First([]any{nil, 7, "x"}, 2, func(x any) bool { return x == "x" })
	if e != api.OK || k != 2 {
		t.Error(k, e)
	}
}

func TestLongList(t *testing.T) {
	in := upTo(100000)
	for _, workers := range []int{1, 5, 64} {
		got, e := crew.Map(in, workers, twice)
		if e != api.OK || len(got) != len(in) {
			t.Fatal(workers, len(got), e)
		}
		for i, n := range got {
			if n != 2*i {
				t.Fatalf("by %d: %d at %d", workers, n, i)
			}
		}
		if k, e := crew.First(in, workers, func(n int) bool { return n >= 77777 }); k != 77777 || e != api.OK {
			t.Fatalf("First by %d: %d %v", workers, k, e)
		}
	}
}

// TestAtOneTime: so many workers, and no more, do jobs at one time. Each waits
// till all of them are at work, so fewer would never end.
func TestAtOneTime(t *testing.T) {
	for _, workers := range crews {
		var begun, going, most atomic.Int64
		all := make(chan struct{})
		job := func(int) bool {
			now := going.Add(1)
			for m := most.Load(); now > m && !most.CompareAndSwap(m, now); m = most.Load() {
			}
			if begun.Add(1) == int64(workers) {
				close(all)
			}
			<-all
			runtime.Gosched()
			going.Add(-1)
			return false
		}
		if _, e := crew.Map(upTo(4*workers), workers, job); e != api.OK || most.Load() != int64(workers) {
			t.Fatalf("Map by %d: %d at one time, %v", workers, most.Load(), e)
		}
		begun.Store(0)
		most.Store(0)
		all = make(chan struct{})
		if _, e := crew.First(upTo(4*workers), workers, job); e != api.ErrNone || most.Load() != int64(workers) {
			t.Fatalf("First by %d: %d at one time, %v", workers, most.Load(), e)
		}
	}
}

// TestFirstOfAllPatterns: all lists of up to nine truths.
func TestFirstOfAllPatterns(t *testing.T) {
	for count := range 10 {
		in := upTo(count)
		for pattern := range 1 << count {
			want, wantE := 0, api.ErrNone
			for i := count - 1; i >= 0; i-- {
				if pattern>>i&1 == 1 {
					want, wantE = i, api.OK
				}
			}
			for _, workers := range []int{1, 2, 3, 9, 64} {
				called := make(calls, count)
				k, e := crew.First(in, workers, func(n int) bool {
					called[n].Add(1)
					return pattern>>n&1 == 1
				})
				if k != want || e != wantE {
					t.Fatalf("First of %d, %b, by %d: %d %v, not %d %v", count, pattern, workers, k, e, want, wantE)
				}
				for i := range called {
					if n := called[i].Load(); n > 1 || n == 0 && (e != api.OK || i <= k) {
						t.Fatalf("First of %d, %b, by %d: called %d times with %d", count, pattern, workers, n, i)
					}
				}
			}
		}
	}
}

// TestFirstOfLongLists: true of none, of the first, of the last, of one, of
// several.
func TestFirstOfLongLists(t *testing.T) {
	const count = 500
	in := upTo(count)
	for _, workers := range crews {
		for _, places := range [][]int{{}, {0}, {count - 1}, {250}, {0, count - 1}, {3, 4, 5, 6}, {100, 101, 400}, {498, 499}, in} {
			k, e := crew.First(in, workers, func(n int) bool { return slices.Contains(places, n) })
			switch {
			case len(places) == 0 && (k != 0 || e != api.ErrNone):
				t.Fatalf("First of none by %d: %d %v", workers, k, e)
			case len(places) > 0 && (k != places[0] || e != api.OK):
				t.Fatalf("First of %v by %d: %d %v", places, workers, k, e)
			}
		}
	}
}

func TestFirstOfNothing(t *testing.T) {
	for _, workers := range crews {
		for _, in := range [][]int{nil, {}} {
			if k, e := crew.First(in, workers, even); k != 0 || e != api.ErrNone {
				t.Errorf("First(%v, %d): %d %v", in, workers, k, e)
			}
			if l, e := crew.Map(in, workers, twice); len(l) != 0 || e != api.OK {
				t.Errorf("Map(%v, %d): %v %v", in, workers, l, e)
			}
		}
	}
}

// TestLaterOneIsFaster: the first one is answered, though others were found
// ahead of it in time.
func TestLaterOneIsFaster(t *testing.T) {
	for _, workers := range crews[1:] {
		for round := range 50 {
			// Each waits till the one behind it has been found.
			found := make([]chan struct{}, workers+1)
			for i := range found {
				found[i] = make(chan struct{})
			}
			close(found[workers])
			k, e := crew.First(upTo(1000), workers, func(n int) bool {
				if n >= workers {
					return true
				}
				<-found[n+1]
				for range round {
					runtime.Gosched()
				}
				close(found[n])
				return true
			})
			if k != 0 || e != api.OK {
				t.Fatalf("by %d: %d %v", workers, k, e)
			}
		}
	}
}

// TestLaterOneIsFasterButNone: a found one is not the answer while one ahead of
// it goes on that is not found.
func TestLaterOneIsFasterButNone(t *testing.T) {
	for _, workers := range crews[2:] {
		found := make(chan struct{})
		k, e := crew.First(upTo(100), workers, func(n int) bool {
			if n == 2 {
				close(found)
				return true
			}
			if n < 2 {
				<-found
			}
			return n > 2
		})
		if k != 2 || e != api.OK {
			t.Fatalf("by %d: %d %v", workers, k, e)
		}
	}
}

// TestSearchEnds: one worker looks at none behind what it looks for.
func TestSearchEnds(t *testing.T) {
	for _, at := range []int{0, 1, 2, 50, 999} {
		called := make(calls, 1000)
		k, e := crew.First(upTo(1000), 1, func(n int) bool {
			called[n].Add(1)
			return n >= at
		})
		if k != at || e != api.OK || called.sum() != int64(at+1) {
			t.Errorf("First at %d: %d %v, %d calls", at, k, e, called.sum())
		}
	}
}

// TestNoneGoesOn: an answer waits for a worker that is still at its job, even
// if it is sure by then.
func TestNoneGoesOn(t *testing.T) {
	for _, workers := range crews[1:] {
		begun, release, done := make(chan struct{}), make(chan struct{}), make(chan struct{})
		var ended atomic.Bool
		go func() {
			defer close(done)
			k, e := crew.First([]int{0, 1}, workers, func(n int) bool {
				if n == 0 {
					<-begun
					return true
				}
				close(begun)
				<-release
				ended.Store(true)
				return true
			})
			if k != 0 || e != api.OK || !ended.Load() {
				t.Errorf("by %d: %d %v, ended: %v", workers, k, e, ended.Load())
			}
		}()
		<-begun
		for range 2000 {
			runtime.Gosched()
		}
		select {
		case <-done:
			t.Fatalf("by %d: an answer, while a worker goes on", workers)
		default:
		}
		close(release)
		<-done
	}
}

// TestNoneLeftBehind: when a call has answered, no job goes on, none begins, and
// soon there are as many goroutines as there were.
func TestNoneLeftBehind(t *testing.T) {
	ahead := runtime.NumGoroutine()
	for round := range 300 {
		workers := crews[round%len(crews)]
		var going, begun atomic.Int64
		job := func(n int) bool {
			begun.Add(1)
			going.Add(1)
			runtime.Gosched()
			going.Add(-1)
			return n%20 == 19
		}
		if _, e := crew.First(upTo(200), workers, job); e != api.OK {
			t.Fatal(e)
		}
		if n := going.Load(); n != 0 {
			t.Fatalf("First by %d: %d jobs go on", workers, n)
		}
		was := begun.Load()
		if _, e := crew.Map(upTo(50), workers, job); e != api.OK {
			t.Fatal(e)
		}
		if n := going.Load(); n != 0 {
			t.Fatalf("Map by %d: %d jobs go on", workers, n)
		}
		if begun.Load() != was+50 {
			t.Fatalf("by %d: %d jobs began behind First's answer", workers, begun.Load()-was-50)
		}
	}
	for range 1 << 20 {
		if runtime.NumGoroutine() <= ahead {
			return
		}
		runtime.Gosched()
	}
	t.Errorf("%d goroutines, and %d ahead", runtime.NumGoroutine(), ahead)
}

// TestPanics: what is handed in may panic; the call does not.
func TestPanics(t *testing.T) {
	outs := []func(){
		func() { panic("no") },
		func() { panic(nil) },
		func() { _ = []int{}[len(crews)] },
		func() { runtime.Goexit() },
	}
	for i, out := range outs {
		for _, workers := range crews {
			third := func(n int) int {
				if n%3 == 0 {
					out()
				}
				return n + 1
			}
			want := upTo(101)
			for n := range want {
				if n%3 != 0 {
					want[n] = n + 1
				} else {
					want[n] = 0
				}
			}
			if l, e := crew.Map(upTo(101), workers, third); e != api.OK || !slices.Equal(l, want) {
				t.Fatalf("%d: Map by %d: %v %v", i, workers, l, e)
			}
			if l, e := crew.Map(upTo(70), workers, func(n int) int { out(); return 9 }); e != api.OK || !slices.Equal(l, make([]int, 70)) {
				t.Fatalf("%d: Map by %d: %v %v", i, workers, l, e)
			}
			if k, e := crew.First(upTo(101), workers, func(n int) bool { return third(n) > 50 }); k != 50 || e != api.OK {
				t.Fatalf("%d: First by %d: %d %v", i, workers, k, e)
			}
			if k, e := crew.First(upTo(70), workers, func(n int) bool { out(); return true }); k != 0 || e != api.ErrNone {
				t.Fatalf("%d: First by %d: %d %v", i, workers, k, e)
			}
		}
	}
}

// TestCallsWithinCalls: a job may have a crew of its own.
func TestCallsWithinCalls(t *testing.T) {
	got, e := crew.Map(upTo(20), 7, func(n int) int {
		l, e := crew.Map(upTo(n), 3, twice)
		k, e2 := crew.First(l, 2, func(m int) bool { return m >= n })
		if e != api.OK || len(l) != n || n > 1 && e2 != api.OK {
			return -1
		}
		return k
	})
	for n := range 20 {
		want := (n + 1) / 2
		if n < 2 {
			want = 0
		}
		if e != api.OK || got[n] != want {
			t.Fatalf("%v %v: %d at %d", got, e, want, n)
		}
	}
}

// TestCrewsAlone: calls at one time know nothing of one another.
func TestCrewsAlone(t *testing.T) {
	var all sync.WaitGroup
	for g := range 16 {
		all.Go(func() {
			for round := range 50 {
				l, e := crew.Map(upTo(round), 1+g, func(n int) int { return n + g })
				for i, n := range l {
					if n != i+g {
						t.Errorf("%d: %d at %d", g, n, i)
						return
					}
				}
				k, e2 := crew.First(upTo(100), 1+g, func(n int) bool { return n >= g+round })
				if len(l) != round || e != api.OK || k != g+round || e2 != api.OK {
					t.Errorf("%d: %d %v %d %v", g, len(l), e, k, e2)
					return
				}
			}
		})
	}
	all.Wait()
}

// TestHandedIn: what is handed in is not changed, not read beyond its end, and
// not shared with an answer.
func TestHandedIn(t *testing.T) {
	for _, workers := range crews {
		room := upTo(10)
		called := make(calls, 10)
		got, e := crew.Map(room[:4], workers, func(n int) int {
			called[n].Add(1)
			return n
		})
		if e != api.OK || !slices.Equal(got, room[:4]) || called.sum() != 4 {
			t.Fatalf("Map by %d: %v %v, %d calls", workers, got, e, called.sum())
		}
		for i := range got {
			got[i] = -1
		}
		_ = append(got, -2, -3)
		if k, e := crew.First(room[:4], workers, func(n int) bool { return n > 3 }); k != 0 || e != api.ErrNone {
			t.Fatalf("First by %d: %d %v", workers, k, e)
		}
		if !slices.Equal(room, upTo(10)) {
			t.Fatalf("by %d: what was handed in is %v", workers, room)
		}

		salts, words := []string{"s", "t", strings.Repeat("x", 33)}, []string{"a", "b", "c", "d"}
		digests, e := crew.Digests(salts[:2], words[:2], workers)
		if e != api.OK || !slices.Equal(digests, []string{salted("s", "a"), salted("t", "b")}) {
			t.Fatalf("Digests by %d: %v %v", workers, digests, e)
		}
		if k, e := crew.Search("s", salted("s", "c"), words[:2], workers); k != 0 || e != api.ErrNone {
			t.Fatalf("Search by %d: %d %v", workers, k, e)
		}
		again, _ := crew.Digests(salts[:2], words[:2], workers)
		digests[0] = "other"
		if again[0] != salted("s", "a") || !slices.Equal(words, []string{"a", "b", "c", "d"}) || salts[0] != "s" {
			t.Fatalf("by %d: %v %v %v", workers, again, words, salts)
		}
	}
}

func TestDigests(t *testing.T) {
	var salts, words, want []string
	for i := range 100 {
		salt, word := strings.Repeat("s\x00\xff"[i%3:i%3+1], i%33), strings.Repeat("w", i)+strconv.Itoa(i/2)
		salts, words, want = append(salts, salt), append(words, word), append(want, salted(salt, word))
	}
	for count := range len(words) + 1 {
		for _, workers := range crews {
			got, e := crew.Digests(salts[:count], words[:count], workers)
			if e != api.OK || !slices.Equal(got, want[:count]) {
				t.Fatalf("Digests of %d by %d: %v %v", count, workers, got, e)
			}
		}
	}
}

func TestDigestsOfUnlikeLists(t *testing.T) {
	l := []string{"a", "b", "c", "d"}
	for i := range len(l) + 1 {
		for j := range len(l) + 1 {
			for _, workers := range crews {
				got, e := crew.Digests(l[:i], l[:j], workers)
				if i != j && (len(got) != 0 || e != api.ErrArg) {
					t.Fatalf("Digests of %d and %d by %d: %v %v", i, j, workers, got, e)
				}
				if i == j && (len(got) != i || e != api.OK) {
					t.Fatalf("Digests of %d by %d: %v %v", i, workers, got, e)
				}
			}
		}
	}
	if got, e := crew.Digests(nil, l[:1], 1); len(got) != 0 || e != api.ErrArg {
		t.Error(got, e)
	}
	if got, e := crew.Digests(nil, []string{}, 1); len(got) != 0 || e != api.OK {
		t.Error(got, e)
	}
}

// TestSaltsThatAreRefused: one of 33 bytes, alone, first, last, several; one of
// 32 is none of them.
func TestSaltsThatAreRefused(t *testing.T) {
	longest, longer := strings.Repeat("x", 32), strings.Repeat("x", 33)
	for _, workers := range crews {
		for count := 1; count < 70; count += 4 {
			salts, words := make([]string, count), make([]string, count)
			for i := range salts {
				salts[i] = longest
			}
			if l, e := crew.Digests(salts, words, workers); e != api.OK || len(l) != count || l[count-1] != salted(longest, "") {
				t.Fatalf("salts of 32 bytes, %d, by %d: %v %v", count, workers, l, e)
			}
			for _, places := range [][]int{{0}, {count - 1}, {count / 2}, {0, count - 1}, upTo(count)} {
				wrong := slices.Clone(salts)
				for _, i := range places {
					wrong[i] = longer
				}
				if l, e := crew.Digests(wrong, words, workers); len(l) != 0 || e != api.ErrArg {
					t.Fatalf("salts of 33 bytes at %v of %d, by %d: %v %v", places, count, workers, l, e)
				}
			}
		}
		for _, words := range [][]string{nil, {"a"}, {"a", "b", "c"}} {
			if k, e := crew.Search(longer, salted(longer, "a"), words, workers); k != 0 || e != api.ErrArg {
				t.Fatalf("Search with 33 bytes of %v by %d: %d %v", words, workers, k, e)
			}
			want := api.OK
			if len(words) == 0 {
				want = api.ErrNone
			}
			if k, e := crew.Search(longest, salted(longest, "a"), words, workers); k != 0 || e != want {
				t.Fatalf("Search with 32 bytes of %v by %d: %d %v", words, workers, k, e)
			}
		}
	}
}

func TestSearch(t *testing.T) {
	var words []string
	for i := range 300 {
		words = append(words, "w"+strconv.Itoa(i%200))
	}
	for _, workers := range crews {
		for i, word := range words {
			if k, e := crew.Search("s", salted("s", word), words, workers); k != i%200 || e != api.OK {
				t.Fatalf("Search(%s) by %d: %d %v", word, workers, k, e)
			}
			if k, e := crew.Search("s", salted("s", word), words[i:], workers); k != 0 || e != api.OK {
				t.Fatalf("Search(%s) by %d: %d %v", word, workers, k, e)
			}
		}
	}
}

// TestSearchOfNone: texts that are no word's digest with that salt.
func TestSearchOfNone(t *testing.T) {
	words := []string{"a", "b", "", "c"}
	right := salted("s", "b")
	bytes, _ := hex.DecodeString(right)
	for _, workers := range crews {
		if k, e := crew.Search("s", right, words, workers); k != 1 || e != api.OK {
			t.Fatalf("by %d: %d %v", workers, k, e)
		}
		if k, e := crew.Search("", salted("", ""), words, workers); k != 2 || e != api.OK {
			t.Fatalf("the empty word by %d: %d %v", workers, k, e)
		}
		for _, digest := range []string{
			"", "b", string(bytes), right[:63], right + "0", " " + right, strings.ToUpper(right),
			salted("s", "d"), salted("t", "b"), salted("", "b"), salted("", "sb"), strings.Repeat("0", 64),
		} {
			if k, e := crew.Search("s", digest, words, workers); k != 0 || e != api.ErrNone {
				t.Fatalf("Search(%q) by %d: %d %v", digest, workers, k, e)
			}
		}
		if k, e := crew.Search("s", "", nil, workers); k != 0 || e != api.ErrNone {
			t.Fatalf("Search of nothing by %d: %d %v", workers, k, e)
		}
	}
}

// TestAgain: the same is answered again and again, by however many.
func TestAgain(t *testing.T) {
	in := upTo(90)
	words := make([]string, 90)
	for i := range words {
		words[i] = strconv.Itoa(i % 7)
	}
	digests, _ := crew.Digests(words, words, 1)
	for round := range 3 {
		for workers := 1; workers <= 64; workers++ {
			l, e := crew.Map(in, workers, func(n int) int { return n * n % 31 })
			k, e2 := crew.First(l, workers, func(n int) bool { return n == 30-round || n == 28 })
			want := slices.IndexFunc(l, func(n int) bool { return n == 30-round || n == 28 })
			if e != api.OK || len(l) != 90 || l[89] != 89*89%31 || e2 != api.OK || k != want {
				t.Fatalf("by %d: %v %v %d %v", workers, l, e, k, e2)
			}
			d, e := crew.Digests(words, words, workers)
			if e != api.OK || !slices.Equal(d, digests) {
				t.Fatalf("Digests by %d: %v", workers, e)
			}
			if k, e := crew.Search("5", salted("5", "5"), words[round:], workers); k != 5-round || e != api.OK {
				t.Fatalf("Search by %d: %d %v", workers, k, e)
			}
		}
	}
}
