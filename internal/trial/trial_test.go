package trial_test

import (
	"cloister/api"
	"cloister/code"
	"cloister/internal/trial"
	"cloister/okws"
	"fmt"
	"slices"
	"testing"
)

func TestWorker(t *testing.T) {
	l, e, at := code.Parse(trial.WorkerText())
	if e != api.OK || !slices.Equal(l, trial.Worker()) {
		t.Fatal(e, at)
	}
	s := trial.New(trial.Config(2, 0b01))
	s.Enter(6, 0)
	s.Enter(7, 1)
	for _, c := range []struct {
		who            int
		commands, want string
	}{
		{0, "w...ik10ik20il11c...", "\x00\x00\x78\x00\x00"},
		{0, "ck..gk..gl..gx..uk30gk..", "\x01\x011\x011\xff\x00\x013"},
		{1, "w...ck..gl..uk40dl.1", "\x01\x00\x011\x03\x15"},
		{0, "dk.0ck..s1a1", "\x00\x00\x00"},
		{1, "r...r...m...", "\x01a\xff\xd0"},
		{1, trial.Give(0, 2000) + trial.Give(2, 4), "\x15\x01"},
		{0, "m..." + trial.Give(1, 1000) + trial.Give(1, 2) + trial.Give(1, 4), "\xe8\x00\x00\x03"},
		{1, "l...", ""},
		{1, "h...", ""},
	} {
		if got := s.Ask(c.who, c.who, c.commands); got != c.want {
			t.Errorf("%d %q: %q; want %q", c.who, c.commands, got, c.want)
		}
	}
	if outs, l, e := okws.Run(s.Config, s.Steps); e != api.OK || fmt.Sprint(outs) != fmt.Sprint(s.Outs) || fmt.Sprint(l) != fmt.Sprint(s.Web.Log()) {
		t.Error(outs, l, e)
	}
}
