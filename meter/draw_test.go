package meter_test

import (
	"cloister/api"
	"cloister/meter"
	"math/rand"
	"slices"
	"strings"
	"testing"
)

// drawn is what draws configurations, steps and outs.
type drawn struct{ *rand.Rand }

func draws(seed int64) drawn { return drawn{rand.New(rand.NewSource(seed))} }

// round is each unit once, in an order that is drawn, some of them twice, and in
// between what is no unit's pick.
func (d drawn) round(c api.Config, conns int) []api.Step {
	out, _ := toldUnits(c, conns, 1+d.Intn(3))
	for range d.Intn(3) {
		out = append(out, out[d.Intn(len(out))])
	}
	for range d.Intn(3) {
		out = append(out, d.other(c, conns))
	}
	d.Shuffle(len(out), func(i, k int) { out[i], out[k] = out[k], out[i] })
	return out
}

// other is a step that is no pick of a unit.
func (d drawn) other(c api.Config, conns int) api.Step {
	users := len(c.Users)
	l := []api.Step{
		{}, {Kind: 7}, {Kind: -1, At: 1}, {Kind: api.StepArrive, At: d.Intn(conns + 1), Bytes: "GET"}, {Kind: api.StepClose, At: d.Intn(conns + 1)},
		conn(conns), idd(conns), conn(-1), idd(-1), worker(users, 1), table(users), worker(-1, 1), table(-1), worker(d.Intn(users), 0), worker(d.Intn(users), -d.Intn(5)),
	}
	return l[d.Intn(len(l))]
}

// script is some rounds, of which a step is missing now and then.
func (d drawn) script(c api.Config, conns int) []api.Step {
	var out []api.Step
	for range d.Intn(5) {
		out = append(out, d.round(c, conns)...)
	}
	for range d.Intn(3) {
		if len(out) > 0 {
			at := d.Intn(len(out))
			out = slices.Delete(out, at, at+1)
		}
	}
	return out[d.Intn(len(out)/4+1):]
}

// Me1, Fair: steps that are drawn, by each within.
func TestDrawnFair(t *testing.T) {
	both := [2]int{}
	for seed := range int64(300) {
		d := draws(seed)
		c, conns := made(1+d.Intn(3), 1+d.Intn(9), 1+d.Intn(9)), d.Intn(4)
		steps := d.script(c, conns)
		at := least(c, conns, steps)
		for within := 1; within < len(steps)+3; within++ {
			want, e := toldFair(c, conns, within, steps)
			wantFair(t, c, conns, within, steps, want, e)
			if want != (within >= at || within > len(steps)) {
				t.Fatal(seed, within, at, want)
			}
			if want {
				both[1]++
			} else {
				both[0]++
			}
		}
	}
	if both[0] < 1000 || both[1] < 1000 {
		t.Error(both)
	}
}

// Me1, Fair: all steps of at most six picks of one user's units.
func TestAllFair(t *testing.T) {
	c := made(1, 1, 1)
	picks := []api.Step{worker(0, 1), table(0), worker(0, 0), conn(0)}
	for n := range 7 {
		for number := range 1 << (2 * n) {
			var steps []api.Step
			for i := range n {
				steps = append(steps, picks[number>>(2*i)&3])
			}
			for within := 1; within <= n+1; within++ {
				want, e := toldFair(c, 0, within, steps)
				wantFair(t, c, 0, within, steps, want, e)
			}
		}
	}
}

// Me1: numbers that are drawn, near their edges and elsewhere.
func TestDrawnNumbers(t *testing.T) {
	d := draws(1)
	near := func(edges ...int) int {
		if d.Intn(8) > 0 {
			return edges[0] + d.Intn(edges[len(edges)-1]-edges[0]+1)
		}
		return edges[d.Intn(len(edges))] + d.Intn(3) - 1
	}
	counts := map[api.Errno]int{}
	for range 20000 {
		c := made(max(0, near(1, 16)), near(1, 1048576), near(1, 64))
		within, ahead, conns, ticks := near(0, 65536), near(0, 65536), near(0, 64), near(1, 1048576)
		bound, e := toldBound(c, within, ahead)
		wantBound(t, c, within, ahead, int(bound.Int64()), e)
		counts[e]++
		units, e := toldUnits(c, conns, ticks)
		wantUnits(t, c, conns, ticks, units, e)
		counts[e]++
		steps := d.script(made(2, 1, 1), 1)
		fair, e := toldFair(c, conns, within, steps)
		wantFair(t, c, conns, within, steps, fair, e)
		counts[e]++
	}
	if len(counts) != 3 || counts[api.OK] < 10000 || counts[api.ErrArg] < 3000 || counts[api.ErrConfig] < 3000 {
		t.Error(counts)
	}
}

// answer is a response that is drawn.
func (d drawn) answer() string {
	var fields []api.Pair
	for range d.Intn(3) {
		fields = append(fields, api.Pair{Name: string([]byte{'a' + byte(d.Intn(26))}), Value: strings.Repeat(":", d.Intn(4))})
	}
	body := strings.Repeat([]string{"x", "\r\n", "HTTP/1.1 200 OK\r\n", "\x00"}[d.Intn(4)], d.Intn(4))
	return response(200+d.Intn(400), body, d.Intn(2) == 0, fields...)
}

// Me2: responses that are drawn, cut anywhere, and mixed with those of others;
// behind one of them perhaps what is none.
func TestDrawnCount(t *testing.T) {
	for seed := range int64(3000) {
		d := draws(seed)
		var texts [3][]string
		var want [3]int
		var close [3]bool
		for conn := range texts {
			all, ends := "", false
			for range d.Intn(6) {
				if d.Intn(8) == 0 {
					all, ends = all+[]string{"x", "HTTP/1.1 200 \r\n", "\r\n"}[d.Intn(3)], true
				}
				all += d.answer()
				if !ends {
					want[conn]++
				}
			}
			if !ends && want[conn] > 0 && d.Intn(3) == 0 {
				all = all[:len(all)-1]
				want[conn]--
			}
			texts[conn] = d.cut(all)
		}
		var l []api.Out
		for conn := d.Intn(3); len(texts[0])+len(texts[1])+len(texts[2]) > 0; conn = d.Intn(3) {
			if len(texts[conn]) > 0 {
				o := api.Out{Step: d.Intn(9), Conn: conn, Bytes: texts[conn][0], Close: d.Intn(12) == 0}
				l, texts[conn], close[conn] = append(l, o), texts[conn][1:], close[conn] || o.Close
			}
		}
		for conn := range texts {
			wantCount(t, l, conn, want[conn], close[conn])
		}
		wantCount(t, l, 3, 0, false)
		wantCount(t, l, -1, 0, false)
	}
}

// cut is a text in pieces.
func (d drawn) cut(s string) []string {
	var out []string
	for len(s) > 0 {
		n := d.Intn(min(len(s), 100) + 1)
		out, s = append(out, s[:n]), s[n:]
	}
	return out
}

// Me1, how the three hang together: rounds of the units are fair by as many
// steps as there are units, and by no fewer.
func TestRounds(t *testing.T) {
	for users := 1; users <= 16; users += 5 {
		for conns := 0; conns <= 64; conns += 16 {
			c := made(users, 9, 2)
			units, e := meter.Units(c, conns, 9)
			if e != api.OK {
				t.Fatal(e)
			}
			steps := slices.Repeat(units, 3)
			wantFair(t, c, conns, len(units), steps, true, api.OK)
			wantFair(t, c, conns, len(units)-1, steps, false, api.OK)
			wantFair(t, c, conns, len(units), steps[5%len(units):], true, api.OK)
			if n := least(c, conns, steps); n != len(units) {
				t.Error(n, len(units))
			}
		}
	}
}
