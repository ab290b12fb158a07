package console_test

import (
	"math"
	"slices"
	"testing"

	"reredos/api"
	"reredos/console"
)

var (
	one   = api.Txn{Site: 0, N: 1}
	two   = api.Txn{Site: 1, N: 2}
	three = api.Txn{Site: 0, N: api.MaxNumber}
	four  = api.Txn{Site: 1, N: 1}
	gone  = api.Txn{Site: 0, N: 2}
	far   = api.Txn{Site: api.MaxSites - 1, N: 10} // of a site that the config has not
)

// Places of labels: they do not stand by who dominates whom.
const (
	here  = 0 // it dominates low and itself
	above = 1 // it dominates all but aside
	low   = 2 // it dominates itself alone
	aside = 3 // it dominates low and itself
)

func conf() api.Config {
	return api.Config{Sites: 2, Labels: []api.Label{{Level: 1}, {Level: 2, Cats: 1}, {}, {Cats: 2}}, Patience: 3}
}

// stores of all labels at a site; in here two reads alone, one reads and writes, and the doubts stand otherwise than the locks.
func stores() []api.Store {
	return []api.Store{
		here: {
			Items: []api.Item{{Key: 0, Value: 9, Version: 1}},
			Locks: []api.Lock{
				{Txn: one, Key: 1},
				{Txn: one, Key: 0, Write: true, Value: 11, Ask: 2},
				{Txn: two, Key: 1},
				{Txn: three, Key: 5, Write: true},
				{Txn: far, Key: 7, Write: true, Value: 77, Ask: 1},
				{Txn: three, Key: 4, Write: true, Value: api.MaxValue, Ask: api.MaxNumber},
			},
			Doubts: []api.Doubt{{Txn: two, Age: 2}, {Txn: far, Age: 10}, {Txn: one}, {Txn: three, Age: api.MaxAge}},
			Over:   []api.Txn{gone, four},
		},
		above: {
			Locks:  []api.Lock{{Txn: gone, Key: 3, Write: true, Value: 1, Ask: 1}},
			Doubts: []api.Doubt{{Txn: gone, Age: 4}},
			Over:   []api.Txn{one},
		},
		low: {
			Locks:  []api.Lock{{Txn: four, Key: 2}, {Txn: two, Key: 4, Write: true, Value: 44, Ask: 1}},
			Doubts: []api.Doubt{{Txn: four, Age: 7}, {Txn: two, Age: 1}},
		},
		aside: {
			Locks:  []api.Lock{{Txn: four, Key: 2, Write: true}},
			Doubts: []api.Doubt{{Txn: four, Age: 6}},
		},
	}
}

// notes of all labels; those of low tell of transactions that are nowhere.
func notes() [][]api.Note {
	return [][]api.Note{
		here:  {{Txn: gone, Yes: true, Damage: true}, {Txn: one}, {Txn: gone, Damage: true}, {Txn: far, Yes: true}},
		above: {{Txn: one, Yes: true}},
		low:   {{Txn: three}},
		aside: {{Txn: two, Damage: true}, {Txn: two, Damage: true}},
	}
}

// shows: what a command tells at a label.
func shows(t *testing.T, l int, x api.Command, want string) {
	t.Helper()
	if s, e := console.Show(conf(), l, stores(), notes(), x); e != api.OK || s != want {
		t.Errorf("%d, %v: %q, %v; want %q", l, x, s, e, want)
	}
}

// refuses each command, those that are none, too.
func refuses(t *testing.T, what string, c api.Config, l int, ss []api.Store, ns [][]api.Note, want api.Errno) {
	t.Helper()
	for _, x := range []api.Command{{Kind: api.List}, {Kind: api.Audit}, {Kind: api.Status, Txn: one}, {Kind: api.Force, Txn: one}, {}, {Kind: math.MinInt, Label: -1}} {
		if s, e := console.Show(c, l, ss, ns, x); e != want || s != "" {
			t.Errorf("%s: %v: %q, %v; want %v", what, x, s, e, want)
		}
	}
}

// TestList: P9.3: of the labels that are dominated, in their order, those that are prepared, as they stand in the Doubts.
func TestList(t *testing.T) {
	ofHere := "0 3 10 10\n0 0 1 0\n0 0 1048576 1048576\n"
	ofAbove, ofLow, ofAside := "1 0 2 4\n", "2 1 2 1\n", "3 1 1 6\n"
	shows(t, here, api.Command{Kind: api.List}, ofHere+ofLow)
	shows(t, above, api.Command{Kind: api.List}, ofHere+ofAbove+ofLow)
	shows(t, low, api.Command{Kind: api.List}, ofLow)
	shows(t, aside, api.Command{Kind: api.List}, ofLow+ofAside)
	shows(t, low, api.Command{Kind: api.List, Label: math.MinInt, Txn: api.Txn{Site: -1, N: -1}, Yes: true}, ofLow)
}

// TestAudit: P9.3: of the labels that are dominated, in their order, each of the notes.
func TestAudit(t *testing.T) {
	ofHere := "0 0 2 commit damage\n0 0 1 abort\n0 0 2 abort damage\n0 3 10 commit\n"
	ofAbove, ofLow, ofAside := "1 0 1 commit\n", "2 0 1048576 abort\n", "3 1 2 abort damage\n3 1 2 abort damage\n"
	shows(t, here, api.Command{Kind: api.Audit}, ofHere+ofLow)
	shows(t, above, api.Command{Kind: api.Audit}, ofHere+ofAbove+ofLow)
	shows(t, low, api.Command{Kind: api.Audit}, ofLow)
	shows(t, aside, api.Command{Kind: api.Audit}, ofLow+ofAside)
	shows(t, low, api.Command{Kind: api.Audit, Label: math.MaxInt, Txn: api.Txn{Site: 9, N: 0}, Yes: true}, ofLow)
}

// TestNothing: P9.3: where there is nothing to tell no line is told.
func TestNothing(t *testing.T) {
	for l := range conf().Labels {
		for _, ns := range [][][]api.Note{make([][]api.Note, 4), {{}, {}, {}, {}}} {
			for _, kind := range []int{api.List, api.Audit} {
				if s, e := console.Show(conf(), l, make([]api.Store, 4), ns, api.Command{Kind: kind}); e != api.OK || s != "" {
					t.Errorf("%d, %d: %q, %v", l, kind, s, e)
				}
			}
		}
	}
	readers := stores()
	readers[low] = api.Store{Locks: []api.Lock{{Txn: one, Key: 1}, {Txn: two, Key: 1}}, Doubts: []api.Doubt{{Txn: two, Age: 1}, {Txn: one}}}
	if s, e := console.Show(conf(), low, readers, notes(), api.Command{Kind: api.List}); e != api.OK || s != "" {
		t.Errorf("readers alone: %q, %v", s, e)
	}
}

// TestStatus: P9.2: prepared, and seen; all else is unknown.
func TestStatus(t *testing.T) {
	type at struct {
		label int
		txn   api.Txn
	}
	prepared := map[at]int{{here, one}: 1, {here, three}: 1, {here, far}: 1, {above, gone}: 1, {low, two}: 1, {aside, four}: 1}
	dominated := [][]int{here: {here, low}, above: {here, above, low}, low: {low}, aside: {low, aside}}
	for l, seen := range dominated {
		for place := range conf().Labels {
			for _, x := range []api.Txn{one, two, three, four, gone, far} {
				want := "unknown\n"
				if slices.Contains(seen, place) && prepared[at{place, x}] == 1 {
					want = "prepared\n"
				}
				for _, yes := range []bool{true, false} {
					shows(t, l, api.Command{Kind: api.Status, Label: place, Txn: x, Yes: yes}, want)
				}
			}
		}
	}
}

// TestStatusWrong: P9.2: a label that is none, and a transaction that may not be, are unknown, too.
func TestStatusWrong(t *testing.T) {
	for l := range conf().Labels {
		for _, place := range []int{-1, 4, api.MaxLabels - 1, api.MaxLabels, math.MinInt, math.MaxInt} {
			shows(t, l, api.Command{Kind: api.Status, Label: place, Txn: two}, "unknown\n")
		}
		for _, x := range badTxns() {
			shows(t, l, api.Command{Kind: api.Status, Label: low, Txn: x}, "unknown\n")
		}
	}
}

// badTxns: outside by one, and by far.
func badTxns() []api.Txn {
	return []api.Txn{
		{}, {Site: 1}, {Site: -1, N: 1}, {Site: api.MaxSites, N: 1}, {Site: 0, N: -1}, {Site: 0, N: api.MaxNumber + 1},
		{Site: math.MinInt, N: 1}, {Site: math.MaxInt, N: 1}, {Site: 1, N: math.MinInt}, {Site: 1, N: math.MaxInt},
	}
}

// TestShowConfig: P9.2: what label's Check refuses, ahead of all else.
func TestShowConfig(t *testing.T) {
	sites, size, twice, patience := conf(), conf(), conf(), conf()
	sites.Sites = api.MaxSites + 1
	size.Labels = nil
	twice.Labels = []api.Label{{}, {Level: 1}, {}, {Cats: 2}}
	patience.Patience = 0
	bad := stores()
	bad[here].Doubts = nil
	for _, l := range []int{here, above, -1, 4, math.MinInt} {
		for _, ss := range [][]api.Store{stores(), bad, nil} {
			refuses(t, "sites", sites, l, ss, notes(), api.ErrRange)
			refuses(t, "size", size, l, ss, notes(), api.ErrSize)
			refuses(t, "twice", twice, l, ss, notes(), api.ErrTwice)
			refuses(t, "patience", patience, l, ss, nil, api.ErrRange)
		}
	}
}

// TestShowLabel: P9.2: there is no such label, ahead of what is wrong with the stores and the notes.
func TestShowLabel(t *testing.T) {
	for _, l := range []int{-1, 4, api.MaxLabels, math.MinInt, math.MaxInt} {
		refuses(t, "label", conf(), l, stores(), notes(), api.ErrNone)
		refuses(t, "label, and stores", conf(), l, stores()[:3], notes(), api.ErrNone)
		refuses(t, "label, and notes", conf(), l, stores(), nil, api.ErrNone)
	}
}

// TestShowNumber: P9.2: one store, and one list of notes, for each label.
func TestShowNumber(t *testing.T) {
	for l := range conf().Labels {
		refuses(t, "no stores", conf(), l, nil, notes(), api.ErrState)
		refuses(t, "too few stores", conf(), l, stores()[:3], notes(), api.ErrState)
		refuses(t, "too many stores", conf(), l, append(stores(), api.Store{}), notes(), api.ErrState)
		refuses(t, "no notes", conf(), l, stores(), nil, api.ErrState)
		refuses(t, "too few notes", conf(), l, stores(), notes()[:3], api.ErrState)
		refuses(t, "too many notes", conf(), l, stores(), append(notes(), nil), api.ErrState)
		refuses(t, "too few of both", conf(), l, stores()[:3], notes()[:3], api.ErrState)
		refuses(t, "too many of both", conf(), l, append(stores(), api.Store{}), append(notes(), nil), api.ErrState)
	}
}

// TestShowState: P9.2: stores that may not be, and notes of no transaction, of whatever label; ahead of a wrong command.
func TestShowState(t *testing.T) {
	for l := range conf().Labels {
		for place := range conf().Labels {
			for i, spoil := range []func(s *api.Store){
				func(s *api.Store) { s.Items = []api.Item{{Key: api.Keys, Version: 1}} },
				func(s *api.Store) { s.Locks[0].Value = -1 },
				func(s *api.Store) { s.Doubts = nil },
				func(s *api.Store) { s.Doubts[0].Age = api.MaxAge + 1 },
				func(s *api.Store) { s.Over = []api.Txn{{Site: 1, N: 9}, {Site: 1, N: 9}} },
				func(s *api.Store) { s.Over = []api.Txn{s.Locks[0].Txn} },
			} {
				ss := stores()
				spoil(&ss[place])
				refuses(t, "store "+string(rune('0'+i)), conf(), l, ss, notes(), api.ErrState)
			}
			for _, x := range badTxns() {
				first, last := notes(), notes()
				first[place][0].Txn = x
				last[place] = append(last[place], api.Note{Txn: x, Yes: true, Damage: true})
				refuses(t, "first note", conf(), l, stores(), first, api.ErrState)
				refuses(t, "last note", conf(), l, stores(), last, api.ErrState)
			}
		}
	}
}

// TestShowKind: P9.2: a Force tells nothing, nor does what is no command.
func TestShowKind(t *testing.T) {
	for l := range conf().Labels {
		for _, kind := range []int{api.Force, 0, -1, 5, math.MinInt, math.MaxInt} {
			for _, x := range []api.Command{{Kind: kind}, {Kind: kind, Label: l, Txn: one, Yes: true}, {Kind: kind, Label: 9}} {
				if s, e := console.Show(conf(), l, stores(), notes(), x); e != api.ErrKind || s != "" {
					t.Errorf("%d, %v: %q, %v", l, x, s, e)
				}
			}
		}
	}
}
