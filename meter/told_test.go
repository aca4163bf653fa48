package meter_test

import (
	"cloister/api"
	"math/big"
	"slices"
)

// What the chapter says, another way than the program does: by great numbers, by
// numbers that tell which unit it is, and by looking through each window.

// toldConfig tells whether layer 19 would not take users, Fuel or Asks.
func toldConfig(c api.Config) bool {
	switch {
	case len(c.Users) == 0, len(c.Users) > 16:
		return false
	case c.Fuel <= 0, c.Fuel > 1048576:
		return false
	case c.Asks <= 0, c.Asks > 64:
		return false
	}
	return true
}

func toldBound(c api.Config, within, ahead int) (*big.Int, api.Errno) {
	if !toldConfig(c) {
		return new(big.Int), api.ErrConfig
	}
	if within < 0 || within > 65536 || ahead < 0 || ahead > 65536 {
		return new(big.Int), api.ErrArg
	}
	n := func(i int) *big.Int { return big.NewInt(int64(i)) }
	plus := func(a, b *big.Int) *big.Int { return new(big.Int).Add(a, b) }
	times := func(a, b *big.Int) *big.Int { return new(big.Int).Mul(a, b) }
	one := times(n(c.Asks), plus(times(n(2), n(c.Fuel)), n(2)))
	return times(times(plus(n(ahead), n(1)), n(within)), plus(one, n(3))), api.OK
}

// toldUnit is the unit of a number, the first one being 0.
func toldUnit(i, conns, ticks int) api.Step {
	switch users := i - 2*conns; {
	case users < 0 && i%2 == 0:
		return api.Step{Kind: api.StepConn, At: i / 2}
	case users < 0:
		return api.Step{Kind: api.StepIdd, At: i / 2}
	case users%2 == 0:
		return api.Step{Kind: api.StepWorker, At: users / 2, Ticks: ticks}
	default:
		return api.Step{Kind: api.StepTable, At: users / 2}
	}
}

func toldUnits(c api.Config, conns, ticks int) ([]api.Step, api.Errno) {
	if !toldConfig(c) {
		return nil, api.ErrConfig
	}
	if conns < 0 || conns > 64 || ticks < 1 || ticks > 1048576 {
		return nil, api.ErrArg
	}
	out := make([]api.Step, 2*conns+2*len(c.Users))
	for i := range out {
		out[i] = toldUnit(i, conns, ticks)
	}
	return out, api.OK
}

// stands tells whether a unit stands in some steps.
func stands(unit api.Step, steps []api.Step) bool {
	return slices.ContainsFunc(steps, func(s api.Step) bool {
		return s.Kind == unit.Kind && s.At == unit.At && (s.Kind != api.StepWorker || s.Ticks >= 1)
	})
}

func toldFair(c api.Config, conns, within int, steps []api.Step) (bool, api.Errno) {
	if !toldConfig(c) {
		return false, api.ErrConfig
	}
	if conns < 0 || conns > 64 || within < 1 || within > 65536 {
		return false, api.ErrArg
	}
	for from := 0; from+within <= len(steps); from++ {
		for i := range 2*conns + 2*len(c.Users) {
			if !stands(toldUnit(i, conns, 1), steps[from:from+within]) {
				return false, api.OK
			}
		}
	}
	return true, api.OK
}

// least is the least within by which steps are fair; one more than they are, if
// they lack a unit.
func least(c api.Config, conns int, steps []api.Step) int {
	most := 0
	for i := range 2*conns + 2*len(c.Users) {
		since := 0
		for _, s := range steps {
			since++
			if stands(toldUnit(i, conns, 1), []api.Step{s}) {
				most, since = max(most, since), 0
			}
		}
		most = max(most, since+1)
	}
	return most
}
