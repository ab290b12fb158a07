package cluster_test

import (
	"math"
	"strings"
	"testing"

	"reredos/api"
	"reredos/cluster"
)

// refused: a script with its error, and the place; nothing else is told.
func refused(t *testing.T, what string, c api.Config, l []api.Act, place int, want api.Errno) {
	t.Helper()
	o, at, e := cluster.Run(c, l)
	if at != place || e != want || !same(o, api.Outcome{}) {
		t.Errorf("%s: %v, %d, %v; want %d, %v", what, o, at, e, place, want)
	}
}

// ticks: so many acts that may be.
func ticks(n int) []api.Act {
	return times(n, []api.Act{{Kind: api.Tick}})
}

// TestRefuseConfig: P11.1: what label's Check refuses comes ahead of all else.
func TestRefuseConfig(t *testing.T) {
	one := []api.Label{{}}
	for _, x := range []struct {
		c    api.Config
		want api.Errno
	}{
		{api.Config{}, api.ErrRange},
		{api.Config{Sites: -1, Labels: one, Patience: 1}, api.ErrRange},
		{api.Config{Sites: api.MaxSites + 1, Labels: one, Patience: 1}, api.ErrRange},
		{api.Config{Sites: math.MaxInt, Labels: one, Patience: 1}, api.ErrRange},
		{api.Config{Sites: 1, Patience: 1}, api.ErrSize},
		{api.Config{Sites: 1, Labels: make([]api.Label, api.MaxLabels+1), Patience: 1}, api.ErrSize},
		{api.Config{Sites: 1, Labels: []api.Label{{Level: -1}}, Patience: 1}, api.ErrRange},
		{api.Config{Sites: 1, Labels: []api.Label{{Cats: api.MaxCats + 1}}, Patience: 1}, api.ErrRange},
		{api.Config{Sites: 1, Labels: []api.Label{{Level: 1}, {Level: 1}}, Patience: 1}, api.ErrTwice},
		{api.Config{Sites: 1, Labels: one}, api.ErrRange},
		{api.Config{Sites: 1, Labels: one, Patience: api.MaxAge + 1}, api.ErrRange},
	} {
		for _, l := range [][]api.Act{nil, ticks(2), {{Kind: api.Tick}, {Kind: 9}}, ticks(api.MaxActs + 1)} {
			refused(t, "config", x.c, l, 0, x.want)
		}
	}
}

// TestRefuseSize: P11.1: MaxActs and no more, whatever they are.
func TestRefuseSize(t *testing.T) {
	if o := run(t, conf(), ticks(api.MaxActs)); o.Ticks != api.MaxActs {
		t.Errorf("%d ticks", o.Ticks)
	}
	refused(t, "one too many", conf(), ticks(api.MaxActs+1), 0, api.ErrSize)
	refused(t, "wrong ones", conf(), make([]api.Act, api.MaxActs+1), 0, api.ErrSize)
	refused(t, "many", conf(), make([]api.Act, 100_000), 0, api.ErrSize)
}

// TestRefuseActs: P11.1: the first act that may not be tells, wherever it stands; none ahead of it is of use then.
func TestRefuseActs(t *testing.T) {
	for _, x := range []struct {
		act  api.Act
		want api.Errno
	}{
		{api.Act{}, api.ErrKind},
		{api.Act{Kind: 9}, api.ErrKind},
		{api.Act{Kind: math.MinInt}, api.ErrKind},
		{api.Act{Kind: api.Start, Site: 2}, api.ErrRange},
		{api.Act{Kind: api.Start, Site: -1}, api.ErrRange},
		{api.Act{Kind: api.Deliver, To: 2}, api.ErrRange},
		{api.Act{Kind: api.Deliver, Label: 3}, api.ErrRange},
		{api.Act{Kind: api.Copy, Pick: api.MaxPick + 1}, api.ErrRange},
		{api.Act{Kind: api.Crash, Keep: []int{0, 0, 0, 0}}, api.ErrRange},
		{api.Act{Kind: api.Crash, Keep: []int{0, -1}}, api.ErrRange},
		{api.Act{Kind: api.Type, Line: strings.Repeat("x", api.MaxLine+1)}, api.ErrRange},
		{api.Act{Kind: api.Tick, Site: 1}, api.ErrForm},
		{api.Act{Kind: api.Start, Label: 1}, api.ErrForm},
		{api.Act{Kind: api.Ask}, api.ErrKind},
		{api.Act{Kind: api.Ask, Call: api.Call{Kind: 6}}, api.ErrKind},
		{api.Act{Kind: api.Ask, Call: api.Call{Kind: api.Get, N: -1}}, api.ErrRange},
		{api.Act{Kind: api.Ask, Call: api.Call{Kind: api.Get, Key: api.Keys + 1}}, api.ErrRange},
		{api.Act{Kind: api.Ask, Call: api.Call{Kind: api.Begin, N: 1}}, api.ErrForm},
	} {
		for _, place := range []int{0, 1, 7, api.MaxActs - 1} {
			l := append(ticks(place), x.act)
			refused(t, "one", conf(), l, place, x.want)
			if place < 7 {
				refused(t, "the first one", conf(), append(l, api.Act{Kind: api.Tick}, api.Act{Kind: 77}), place, x.want)
			}
		}
	}
	script := actsOf(t, conf(), "ask 0 0 begin; ask 0 0 put 1 2 5; deliver 0 0 0 0; crash 1")
	refused(t, "behind others", conf(), append(script, api.Act{Kind: api.Tick, To: 1}), 4, api.ErrForm)
}

// TestBeginning: P11.1, P11.8: all sites are up, and nothing is there, however many sites and labels there are.
func TestBeginning(t *testing.T) {
	for sites := 1; sites <= api.MaxSites; sites++ {
		c := api.Config{Sites: sites, Patience: api.MaxAge}
		for len(c.Labels) < api.MaxLabels {
			c.Labels = append(c.Labels, api.Label{Level: len(c.Labels)})
			for _, l := range [][]api.Act{nil, {}} {
				begins(t, run(t, c, l), sites)
			}
		}
	}
}

func begins(t *testing.T, o api.Outcome, sites int) {
	t.Helper()
	for _, up := range o.Up {
		if !up {
			t.Errorf("a site is down: %v", o.Up)
		}
	}
	if o.Ticks != 0 || len(o.Fates) != 0 {
		t.Errorf("%d, %v", o.Ticks, o.Fates)
	}
	want := api.View{Flying: make([][]api.Message, sites*sites), Tapes: make([]api.Tape, sites), Stores: make([]api.Store, sites), Notes: make([][]api.Note, sites)}
	for _, v := range o.Views {
		if !same(v, want) {
			t.Errorf("%v; want %v", v, want)
		}
	}
}

// TestFirst: P11.1: at each site, of each label, the first transaction is number 1.
func TestFirst(t *testing.T) {
	o := play(t, "ask 0 0 begin; ask 1 0 begin; ask 1 1 begin; ask 0 1 begin; ask 1 0 begin")
	is(t, "low", o.Views[low].Replies, "[{0 1 1 0 0 refused 0} {1 1 1 0 0 refused 0} {1 1 2 0 0 refused 0}]")
	is(t, "high", o.Views[high].Replies, "[{1 1 1 0 0 refused 0} {0 1 1 0 0 refused 0}]")
	is(t, "aside", o.Views[aside].Replies, "[]")
}
