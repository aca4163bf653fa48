package meter_test

import (
	"cloister/api"
	"cloister/meter"
	"cloister/reply"
	"math"
	"slices"
	"strconv"
	"testing"
)

// made is a configuration of which no more is given than layer 21 asks for.
func made(users, fuel, asks int) api.Config {
	return api.Config{Users: make([]api.User, users), Fuel: fuel, Asks: asks}
}

// The shapes of steps.
func conn(at int) api.Step          { return api.Step{Kind: api.StepConn, At: at} }
func idd(at int) api.Step           { return api.Step{Kind: api.StepIdd, At: at} }
func worker(at, ticks int) api.Step { return api.Step{Kind: api.StepWorker, At: at, Ticks: ticks} }
func table(at int) api.Step         { return api.Step{Kind: api.StepTable, At: at} }

func wantBound(t *testing.T, c api.Config, within, ahead, want int, e api.Errno) {
	t.Helper()
	if got, f := meter.Bound(c, within, ahead); got != want || f != e {
		t.Errorf("Bound(%d users, Fuel %d, Asks %d; %d, %d): %d, %v; want %d, %v", len(c.Users), c.Fuel, c.Asks, within, ahead, got, f, want, e)
	}
}

func wantUnits(t *testing.T, c api.Config, conns, ticks int, want []api.Step, e api.Errno) {
	t.Helper()
	if got, f := meter.Units(c, conns, ticks); !slices.Equal(got, want) || f != e || f != api.OK && got != nil {
		t.Errorf("Units(%d users, Fuel %d, Asks %d; %d, %d): %v, %v; want %v, %v", len(c.Users), c.Fuel, c.Asks, conns, ticks, got, f, want, e)
	}
}

func wantFair(t *testing.T, c api.Config, conns, within int, steps []api.Step, want bool, e api.Errno) {
	t.Helper()
	if got, f := meter.Fair(c, conns, within, steps); got != want || f != e {
		t.Errorf("Fair(%d users, Fuel %d, Asks %d; %d, %d, %v): %v, %v; want %v, %v", len(c.Users), c.Fuel, c.Asks, conns, within, steps, got, f, want, e)
	}
}

func wantCount(t *testing.T, l []api.Out, conn, n int, closed bool) {
	t.Helper()
	if got, f := meter.Count(l, conn); got != n || f != closed {
		t.Errorf("Count(%v, %d): %d, %v; want %d, %v", l, conn, got, f, n, closed)
	}
}

// The chapter's example.
func TestExample(t *testing.T) {
	c := made(1, 9, 1)
	wantBound(t, c, 4, 0, 92, api.OK)
	wantUnits(t, c, 1, 5, []api.Step{conn(0), idd(0), worker(0, 5), table(0)}, api.OK)
}

// Me1: which configurations may be; it is told ahead of arguments that may not.
func TestConfigs(t *testing.T) {
	for _, x := range []struct {
		c  api.Config
		ok bool
	}{
		{made(0, 9, 1), false}, {made(1, 9, 1), true}, {made(2, 9, 1), true}, {made(15, 9, 1), true}, {made(16, 9, 1), true}, {made(17, 9, 1), false}, {made(100, 9, 1), false},
		{made(1, math.MinInt, 1), false}, {made(1, -1, 1), false}, {made(1, 0, 1), false}, {made(1, 1, 1), true}, {made(1, 1048575, 1), true}, {made(1, 1048576, 1), true}, {made(1, 1048577, 1), false}, {made(1, math.MaxInt, 1), false},
		{made(1, 9, math.MinInt), false}, {made(1, 9, -1), false}, {made(1, 9, 0), false}, {made(1, 9, 2), true}, {made(1, 9, 63), true}, {made(1, 9, 64), true}, {made(1, 9, 65), false}, {made(1, 9, math.MaxInt), false},
		{api.Config{}, false}, {made(17, 0, 65), false}, {made(16, 1048576, 64), true},
	} {
		if x.ok != toldConfig(x.c) {
			t.Fatal(x)
		}
		e, wrong := api.OK, api.ErrArg
		if !x.ok {
			e, wrong = api.ErrConfig, api.ErrConfig
		}
		bound, _ := toldBound(x.c, 4, 2)
		wantBound(t, x.c, 4, 2, int(bound.Int64()), e)
		units, _ := toldUnits(x.c, 2, 3)
		wantUnits(t, x.c, 2, 3, units, e)
		wantFair(t, x.c, 2, 4, nil, x.ok, e)
		for _, a := range [][2]int{{-1, 2}, {65537, 2}, {4, -1}, {4, 65537}, {-1, -1}} {
			wantBound(t, x.c, a[0], a[1], 0, wrong)
		}
		for _, a := range [][2]int{{-1, 3}, {65, 3}, {2, 0}, {2, 1048577}, {-1, 0}} {
			wantUnits(t, x.c, a[0], a[1], nil, wrong)
		}
		for _, a := range [][2]int{{-1, 4}, {65, 4}, {2, 0}, {2, 65537}, {-1, 0}} {
			wantFair(t, x.c, a[0], a[1], nil, false, wrong)
		}
	}
}

// Me1: no more of a configuration is looked at, be it one that layer 19 refuses.
func TestOtherParts(t *testing.T) {
	c := made(2, 9, 3)
	other := api.Config{
		Users: []api.User{{Name: ""}, {Name: "", Digest: "x", Open: true}}, Fuel: 9, Asks: 3,
		Draws: []int{-1}, Code: []api.Instr{{Op: 99, A: -1}}, Image: string(make([]byte, 5000)), Rows: []api.Row{{Who: 7}}, Conns: -1, Quota: -1,
	}
	bound, e := meter.Bound(c, 7, 5)
	wantBound(t, other, 7, 5, bound, e)
	units, e := meter.Units(c, 2, 5)
	wantUnits(t, other, 2, 5, units, e)
	wantFair(t, other, 2, 8, units, true, api.OK)
	wantFair(t, other, 2, 7, units, false, api.OK)
	if bound != 6*7*(3*20+3) || len(units) != 8 || e != api.OK {
		t.Error(bound, units, e)
	}
}

// Me1, Bound: the edges, and how it grows with each of its parts.
func TestBound(t *testing.T) {
	c := made(1, 1, 1)
	for _, n := range []int{math.MinInt, -65536, -2, -1, 65537, 131072, 1 << 32, math.MaxInt} {
		wantBound(t, c, n, 0, 0, api.ErrArg)
		wantBound(t, c, 0, n, 0, api.ErrArg)
		wantBound(t, c, n, n, 0, api.ErrArg)
		wantBound(t, made(0, 1, 1), n, n, 0, api.ErrConfig)
	}
	for ahead, want := range map[int]int{0: 7, 1: 14, 2: 21, 65535: 65536 * 7, 65536: 65537 * 7} {
		wantBound(t, c, 0, ahead, 0, api.OK)
		wantBound(t, c, 1, ahead, want, api.OK)
		wantBound(t, c, 2, ahead, 2*want, api.OK)
		wantBound(t, c, 65535, ahead, 65535*want, api.OK)
		wantBound(t, c, 65536, ahead, 65536*want, api.OK)
	}
	for fuel, want := range map[int]int{1: 7, 2: 9, 3: 11, 1048575: 2097155, 1048576: 2097157} {
		wantBound(t, made(1, fuel, 1), 1, 0, want, api.OK)
	}
	for asks, want := range map[int]int{1: 7, 2: 11, 3: 15, 63: 255, 64: 259} {
		wantBound(t, made(1, 1, asks), 1, 0, want, api.OK)
	}
	for users := 1; users <= 16; users++ {
		wantBound(t, made(users, 1, 1), 1, 0, 7, api.OK)
	}
	wantBound(t, made(16, 1048576, 64), 65536, 65536, 576470111045746688, api.OK)
}

// Me1, Units: the edges, and their order.
func TestUnits(t *testing.T) {
	for _, n := range []int{math.MinInt, -64, -1, 65, 128, 1 << 32, math.MaxInt} {
		wantUnits(t, made(1, 1, 1), n, 1, nil, api.ErrArg)
	}
	for _, n := range []int{math.MinInt, -1, 0, 1048577, 1 << 32, math.MaxInt} {
		wantUnits(t, made(1, 1, 1), 0, n, nil, api.ErrArg)
	}
	wantUnits(t, made(1, 1, 1), 0, 1, []api.Step{worker(0, 1), table(0)}, api.OK)
	wantUnits(t, made(2, 1, 1), 0, 1048576, []api.Step{worker(0, 1048576), table(0), worker(1, 1048576), table(1)}, api.OK)
	wantUnits(t, made(2, 7, 9), 3, 2, []api.Step{conn(0), idd(0), conn(1), idd(1), conn(2), idd(2), worker(0, 2), table(0), worker(1, 2), table(1)}, api.OK)
	for conns := range 65 {
		for users := 1; users <= 16; users++ {
			c := made(users, 1+conns, 1)
			want, e := toldUnits(c, conns, 1+users)
			if len(want) != 2*conns+2*users {
				t.Fatal(len(want))
			}
			wantUnits(t, c, conns, 1+users, want, e)
		}
	}
}

// Me1, Fair: the edges.
func TestFairEdges(t *testing.T) {
	c := made(1, 1, 1)
	for _, n := range []int{math.MinInt, -64, -1, 65, 128, 1 << 32, math.MaxInt} {
		wantFair(t, c, n, 1, nil, false, api.ErrArg)
	}
	for _, n := range []int{math.MinInt, -1, 0, 65537, 1 << 32, math.MaxInt} {
		wantFair(t, c, 0, n, nil, false, api.ErrArg)
	}
	for _, conns := range []int{0, 1, 63, 64} {
		for _, within := range []int{1, 2, 65535, 65536} {
			wantFair(t, c, conns, within, nil, true, api.OK)
			wantFair(t, c, conns, within, []api.Step{}, true, api.OK)
			units, _ := meter.Units(c, conns, 1)
			wantFair(t, c, conns, within, units, within >= len(units), api.OK)
		}
	}
	// So many steps as are looked at together, and one less.
	lacks := slices.Repeat([]api.Step{worker(0, 1)}, 65536)
	wantFair(t, c, 0, 65536, lacks, false, api.OK)
	wantFair(t, c, 0, 65536, lacks[1:], true, api.OK)
	for _, at := range []int{0, 1, 40000, 65535} {
		has := slices.Clone(lacks)
		has[at] = table(0)
		wantFair(t, c, 0, 65536, has, true, api.OK)
		wantFair(t, c, 0, 65535, has, at != 0 && at != 65535, api.OK)
	}
	// More than a script may have.
	both := slices.Repeat([]api.Step{worker(0, 1), table(0)}, 40000)
	wantFair(t, c, 0, 2, both, true, api.OK)
	wantFair(t, c, 0, 1, both, false, api.OK)
	both[79999] = worker(0, 1)
	wantFair(t, c, 0, 2, both, false, api.OK)
	wantFair(t, c, 0, 3, both, true, api.OK)
}

// Me1, Fair: within of one less than the units are, as many, and more, of steps
// that are fewer, as many, and more.
func TestFairWithin(t *testing.T) {
	c := made(2, 1, 1)
	units, _ := meter.Units(c, 3, 1)
	round := slices.Repeat(units, 4)
	for n := range len(round) + 1 {
		for within := 1; within < 25; within++ {
			wantFair(t, c, 3, within, round[:n], n < within || within >= 10, api.OK)
		}
	}
	// The other way round each second time, so that one waits 19 steps.
	back := slices.Clone(units)
	slices.Reverse(back)
	round = slices.Concat(units, back, units)
	for within := 1; within < 30; within++ {
		wantFair(t, c, 3, within, round, within >= 19, api.OK)
	}
}

// Me1, Fair: a unit that is missing in one window alone.
func TestFairMissing(t *testing.T) {
	c := made(1, 1, 1)
	units, _ := meter.Units(c, 1, 7)
	steps := slices.Repeat(units, 6)
	other := []api.Step{{}, conn(1), idd(1), worker(1, 5), table(1), conn(-1), worker(-1, 1), {Kind: api.StepArrive}, {Kind: api.StepClose}, {Kind: 7}, {Kind: -1}, {Kind: api.StepArrive, Bytes: "x"}}
	for i, was := range steps {
		for _, s := range append(other, units...) {
			if s == was {
				continue
			}
			changed := slices.Clone(steps)
			changed[i] = s
			// How far it is from the one ahead, or from the beginning, to the one
			// behind, or to the end.
			need := 8
			if i < 4 {
				need = i + 5
			} else if i >= 20 {
				need = 28 - i
			}
			for within := 1; within < 10; within++ {
				want, e := toldFair(c, 1, within, changed)
				if want != (within >= need) {
					t.Fatal(i, within, want, need)
				}
				wantFair(t, c, 1, within, changed, want, e)
			}
		}
	}
}

// Me1, Fair: of what counts as a pick.
func TestFairPicks(t *testing.T) {
	c := made(1, 1, 1)
	with := func(w api.Step) []api.Step { return []api.Step{conn(0), idd(0), w, table(0)} }
	for ticks, want := range map[int]bool{math.MinInt: false, -1: false, 0: false, 1: true, 2: true, 1048576: true, 1048577: true, math.MaxInt: true} {
		wantFair(t, c, 1, 4, with(worker(0, ticks)), want, api.OK)
		wantFair(t, c, 1, 5, slices.Insert(with(worker(0, ticks)), 3, worker(0, 1)), true, api.OK)
		wantFair(t, c, 1, 5, slices.Insert(with(worker(0, ticks)), 3, worker(0, 0)), want, api.OK)
		// Of others no ticks are asked for.
		steps := []api.Step{{Kind: api.StepConn, Ticks: ticks, Bytes: "x"}, {Kind: api.StepIdd, Ticks: ticks, Bytes: "\x00"}, {Kind: api.StepWorker, Ticks: 1, Bytes: "yy"}, {Kind: api.StepTable, Ticks: ticks, Bytes: string(make([]byte, 70000))}}
		wantFair(t, c, 1, 4, steps, true, api.OK)
		wantFair(t, c, 1, 3, steps, false, api.OK)
	}
	// Units of more connections than are asked for are none, and those of fewer are missing.
	steps := []api.Step{conn(0), worker(0, 1), table(0), idd(0)}
	wantFair(t, c, 0, 3, steps, true, api.OK)
	wantFair(t, c, 0, 2, steps, false, api.OK)
	wantFair(t, c, 2, 4, steps, false, api.OK)
	wantFair(t, made(2, 1, 1), 1, 4, steps, false, api.OK)
}

// response is one's bytes.
func response(status int, text string, close bool, fields ...api.Pair) string {
	s, e := reply.Print(api.Response{Status: status, Fields: fields, Body: text, Close: close})
	if e != api.OK {
		panic(e)
	}
	return s
}

// out is one of a connection.
func out(conn int, s string) api.Out { return api.Out{Conn: conn, Bytes: s} }

// shut is the out by which its connection closes.
func shut(o api.Out) api.Out {
	o.Close = true
	return o
}

// Me2: responses, and outs of other connections in between.
func TestCount(t *testing.T) {
	a, b, z := response(200, "hi", false), response(503, "", false, api.Pair{Name: "set-cookie", Value: "sid=x"}), response(404, "bye", true)
	for _, conn := range []int{math.MinInt, -1, 0, 63, 64, math.MaxInt} {
		wantCount(t, nil, conn, 0, false)
		wantCount(t, []api.Out{}, conn, 0, false)
		wantCount(t, []api.Out{{Conn: conn}}, conn, 0, false)
		wantCount(t, []api.Out{out(conn, a), out(conn, b), out(conn, a)}, conn, 3, false)
		wantCount(t, []api.Out{out(conn, a+b), out(conn, ""), out(conn, a)}, conn, 3, false)
		wantCount(t, []api.Out{out(1, a), out(2, b), out(1, z), shut(out(2, z)), out(1, b)}, conn, 0, false)
	}
	l := []api.Out{out(1, a), out(2, b), out(1, z), shut(out(2, z)), out(1, b)}
	wantCount(t, l, 1, 3, false)
	wantCount(t, l, 2, 2, true)
	// Whether one says Close is not told by what it says in its bytes.
	wantCount(t, []api.Out{out(1, z)}, 1, 1, false)
	wantCount(t, []api.Out{shut(out(1, a))}, 1, 1, true)
	wantCount(t, []api.Out{shut(out(1, ""))}, 1, 0, true)
	wantCount(t, []api.Out{out(1, a), shut(out(1, "")), out(1, b)}, 1, 2, true)
	wantCount(t, []api.Out{shut(out(1, "rubbish"))}, 1, 0, true)
	wantCount(t, []api.Out{out(1, "rubbish"), shut(out(1, a))}, 1, 0, true)
	wantCount(t, []api.Out{shut(out(1, a)), out(1, a)}, 1, 2, true)
	// The step has nothing to do with it.
	wantCount(t, []api.Out{{Step: 9, Conn: 1, Bytes: a}, {Step: -1, Conn: 1, Bytes: b}, {Step: 9, Conn: 1, Bytes: a}}, 1, 3, false)
}

// Me2: a response that is cut over several outs, at each place.
func TestCountCut(t *testing.T) {
	a, b := response(200, "hi\r\n", false), response(500, "", false, api.Pair{Name: "x", Value: "y"})
	all := a + b + a
	for i := range len(all) + 1 {
		full := 0
		for _, end := range []int{len(a), len(a + b), len(all)} {
			if i >= end {
				full++
			}
		}
		wantCount(t, []api.Out{out(3, all[:i])}, 3, full, false)
		wantCount(t, []api.Out{out(3, all[:i]), out(3, all[i:])}, 3, 3, false)
		wantCount(t, []api.Out{out(4, b), out(3, all[:i]), out(2, "x"), shut(out(4, "")), out(3, all[i:])}, 3, 3, false)
		wantCount(t, []api.Out{out(3, all[i:])}, 3, map[int]int{0: 3, len(a): 2, len(a + b): 1}[i], false)
	}
	var bytes []api.Out
	for i := range len(all) {
		bytes = append(bytes, out(3, all[i:i+1]), out(5, "HTTP"))
	}
	wantCount(t, bytes, 3, 3, false)
}

// Me2: bytes behind which no further response can be read.
func TestCountEnds(t *testing.T) {
	a := response(200, "hi", false)
	for _, wrong := range []string{
		"x", "\r\n", " ", "\x00", "H", "HTTP/1.1 200 OK\r\n", "HTTP/1.1 200 ok\r\ncontent-length: 0\r\nconnection: close\r\n\r\n", "HTTP/1.1 200 OK\r\ncontent-length: 0\r\n\r\n", "HTTP/1.1 200 OK\r\nconnection: close\r\ncontent-length: 0\r\n\r\n",
		"HTTP/1.1 199 Status\r\ncontent-length: 0\r\nconnection: close\r\n\r\n", "HTTP/1.0 200 OK\r\ncontent-length: 0\r\nconnection: close\r\n\r\n", "HTTP/1.1 200 OK\r\ncontent-length: 00\r\nconnection: close\r\n\r\n", "HTTP/1.1 200 OK\r\ncontent-length: 9999999\r\nconnection: close\r\n\r\n",
	} {
		wantCount(t, []api.Out{out(0, wrong)}, 0, 0, false)
		wantCount(t, []api.Out{out(0, wrong+a)}, 0, 0, false)
		wantCount(t, []api.Out{out(0, a+wrong)}, 0, 1, false)
		wantCount(t, []api.Out{out(0, a), out(0, wrong), out(0, a), shut(out(0, a))}, 0, 1, true)
		wantCount(t, []api.Out{out(0, a), out(1, wrong), out(0, a), out(0, a)}, 0, 3, false)
	}
	// The length takes in what stands behind: a response in a body is none of its own.
	wantCount(t, []api.Out{out(0, response(200, a+a, false)), out(0, a)}, 0, 2, false)
}

// Me2: many, and one that is as great as it may be.
func TestCountMany(t *testing.T) {
	for _, n := range []int{1, 1000, 20000} {
		var l []api.Out
		for i := range n {
			l = append(l, out(i%2, response(200+i%400, strconv.Itoa(i), i%3 == 0)))
		}
		wantCount(t, l, 0, n-n/2, false)
		wantCount(t, l, 1, n/2, false)
	}
	great := response(200, string(make([]byte, 1<<20)), false)
	wantCount(t, []api.Out{out(0, great), out(0, great)}, 0, 2, false)
	wantCount(t, []api.Out{out(0, great[:len(great)-1])}, 0, 0, false)
}
