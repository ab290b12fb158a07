package recover_test

import (
	"fmt"
	"math"
	"strings"
	"testing"

	"reredos/api"
	"reredos/recover"
)

// me: the site that is rebuilt in most tests.
const me = 1

func conf() api.Config {
	return api.Config{Sites: 3, Labels: []api.Label{{}, {Level: 1}, {Level: 2, Cats: 1}}, Patience: 3}
}

// badConfigs: each with what label's Check says of it.
func badConfigs() map[api.Errno]api.Config {
	size, twice, bound := conf(), conf(), conf()
	size.Labels = nil
	twice.Labels = []api.Label{{}, {Level: 1}, {}}
	bound.Patience = 0
	return map[api.Errno]api.Config{api.ErrSize: size, api.ErrTwice: twice, api.ErrRange: bound}
}

// own transaction of the site, and those of the others.
func own(n int) api.Txn   { return api.Txn{Site: me, N: n} }
func other(n int) api.Txn { return api.Txn{Site: 0, N: n} }
func third(n int) api.Txn { return api.Txn{Site: 2, N: n} }

func prepared(t api.Txn, key, value, ask int) api.Record {
	return api.Record{Kind: api.Prepared, Txn: t, Key: key, Value: value, Ask: ask}
}

func applied(t api.Txn, yes bool) api.Record {
	return api.Record{Kind: api.Applied, Txn: t, Yes: yes}
}

func forced(t api.Txn, yes bool) api.Record {
	return api.Record{Kind: api.Forced, Txn: t, Yes: yes}
}

func committed(t api.Txn, sites ...int) api.Record {
	return api.Record{Kind: api.Committed, Txn: t, Sites: sites}
}

func ended(t api.Txn) api.Record {
	return api.Record{Kind: api.Ended, Txn: t}
}

func began(t api.Txn) api.Record {
	return api.Record{Kind: api.Began, Txn: t}
}

// held: a lock that is a Write.
func held(t api.Txn, key, value, ask int) api.Lock {
	return api.Lock{Txn: t, Key: key, Write: true, Value: value, Ask: ask}
}

// telling: a job as it is rebuilt.
func telling(n int, sites ...int) api.Job {
	return api.Job{N: n, State: api.Telling, Asked: sites}
}

// rebuilt: all that is told.
type rebuilt struct {
	Store api.Store
	Desk  api.Desk
	Notes []api.Note
}

// shown as a text, so that a list without elements may be nil or not.
func (x rebuilt) shown() string {
	return strings.ReplaceAll(fmt.Sprintf("%+v", x), "<nil>", "[]")
}

// rebuild of records that are not refused.
func rebuild(t *testing.T, what string, l ...api.Record) rebuilt {
	t.Helper()
	s, d, notes, e := recover.Rebuild(conf(), me, l)
	if e != api.OK {
		t.Fatalf("%s: %v", what, e)
	}
	return rebuilt{s, d, notes}
}

// comes: does that come of the records?
func comes(t *testing.T, what string, want rebuilt, l ...api.Record) {
	t.Helper()
	if got := rebuild(t, what, l...); got.shown() != want.shown() {
		t.Errorf("%s: %s, want %s", what, got.shown(), want.shown())
	}
}

// comesStore: does that store come of them? Nothing else does.
func comesStore(t *testing.T, what string, want api.Store, l ...api.Record) {
	t.Helper()
	comes(t, what, rebuilt{Store: want, Desk: api.Desk{Next: 1}}, l...)
}

// comesDesk: does that desk come of them? Nothing else does.
func comesDesk(t *testing.T, what string, want api.Desk, l ...api.Record) {
	t.Helper()
	comes(t, what, rebuilt{Desk: want}, l...)
}

// comesNotes: do these notes come of them?
func comesNotes(t *testing.T, what string, want []api.Note, l ...api.Record) {
	t.Helper()
	if got := rebuild(t, what, l...).Notes; fmt.Sprint(got) != fmt.Sprint(want) {
		t.Errorf("%s: %v, want %v", what, got, want)
	}
}

// refused: with that error, and nothing else.
func refused(t *testing.T, what string, c api.Config, site int, want api.Errno, l ...api.Record) {
	t.Helper()
	s, d, notes, e := recover.Rebuild(c, site, l)
	if got := (rebuilt{s, d, notes}).shown(); e != want || got != (rebuilt{}).shown() {
		t.Errorf("%s: %s, %v, want %v", what, got, e, want)
	}
}

// badRecords: each with what CheckRecord says of it.
func badRecords() map[string]struct {
	r api.Record
	e api.Errno
} {
	return map[string]struct {
		r api.Record
		e api.Errno
	}{
		"no kind":             {api.Record{Txn: own(1)}, api.ErrKind},
		"no such kind":        {api.Record{Kind: api.Forced + 1}, api.ErrKind},
		"below all kinds":     {api.Record{Kind: math.MinInt, Txn: own(1)}, api.ErrKind},
		"a site too many":     {began(api.Txn{Site: 3, N: 1}), api.ErrRange},
		"no site":             {ended(api.Txn{Site: -1, N: 1}), api.ErrRange},
		"no number":           {applied(own(0), true), api.ErrRange},
		"too great a number":  {forced(own(api.MaxNumber+1), true), api.ErrRange},
		"no key":              {prepared(own(1), api.Keys, 1, 1), api.ErrRange},
		"no value":            {prepared(own(1), 1, api.MaxValue+1, 1), api.ErrRange},
		"no ask":              {prepared(own(1), 1, 1, -1), api.ErrRange},
		"sites that fall":     {committed(own(1), 2, 0), api.ErrRange},
		"a site twice":        {committed(own(1), 1, 1), api.ErrRange},
		"sites without end":   {committed(own(1), make([]int, 1000)...), api.ErrRange},
		"a Began with a key":  {api.Record{Kind: api.Began, Txn: own(1), Key: 1}, api.ErrForm},
		"an Ended with sites": {api.Record{Kind: api.Ended, Txn: own(1), Sites: []int{0}}, api.ErrForm},
		"a Prepared with yes": {api.Record{Kind: api.Prepared, Txn: own(1), Yes: true}, api.ErrForm},
		"another's, with yes": {api.Record{Kind: api.Committed, Txn: other(1), Yes: true}, api.ErrForm},
	}
}

// TestRefuses: P8.1: what is refused, in which order.
func TestRefuses(t *testing.T) {
	for want, c := range badConfigs() {
		refused(t, "config", c, me, want)
		refused(t, "config, and all else", c, -1, want, api.Record{})
	}
	for _, site := range []int{-1, 3, math.MinInt, math.MaxInt} {
		refused(t, "site", conf(), site, api.ErrRange)
		refused(t, "site, and a record", conf(), site, api.ErrRange, api.Record{})
	}
	good := []api.Record{prepared(own(1), 1, 1, 1), forced(own(1), true), began(own(1)), committed(own(1), 1)}
	for what, x := range badRecords() {
		refused(t, what, conf(), me, x.e, x.r)
		refused(t, what+", at the end", conf(), me, x.e, append(good, x.r)...)
		refused(t, what+", ahead of others", conf(), me, x.e, append([]api.Record{x.r}, good...)...)
		refused(t, what+", of who is over", conf(), me, x.e, applied(own(1), false), applied(other(1), false), x.r)
	}
	kind, form, bound := api.Record{Kind: 9, Txn: own(1)}, api.Record{Kind: api.Ended, Txn: own(1), Ask: 1}, began(own(0))
	refused(t, "the first one tells", conf(), me, api.ErrKind, good[0], kind, form, bound)
	refused(t, "the first one tells", conf(), me, api.ErrForm, good[0], form, kind, bound)
	refused(t, "the first one tells", conf(), me, api.ErrRange, good[0], bound, form, kind)
}

// TestNothing: P8.1: the beginning, at each site.
func TestNothing(t *testing.T) {
	for site := range conf().Sites {
		for _, l := range [][]api.Record{nil, {}} {
			s, d, notes, e := recover.Rebuild(conf(), site, l)
			want := rebuilt{Desk: api.Desk{Next: 1}}.shown()
			if got := (rebuilt{s, d, notes}).shown(); e != api.OK || got != want {
				t.Errorf("at %d: %s, %v", site, got, e)
			}
		}
	}
}

// TestExample: some of all kinds, beside one another.
func TestExample(t *testing.T) {
	comes(t, "all kinds", rebuilt{
		Store: api.Store{
			Items:  []api.Item{{Key: 1, Value: 20, Version: 1}, {Key: 4, Value: 10, Version: 1}},
			Locks:  []api.Lock{held(third(7), 7, 70, 2)},
			Doubts: []api.Doubt{{Txn: third(7)}},
			Over:   []api.Txn{own(3), other(2)},
		},
		Desk:  api.Desk{Next: 6, Jobs: []api.Job{telling(3, 1, 2)}},
		Notes: []api.Note{{Txn: other(2), Yes: true, Damage: true}},
	},
		began(own(3)), prepared(own(3), 4, 10, 1), prepared(other(2), 1, 20, 5), committed(own(3), 1, 2), prepared(third(7), 7, 70, 2),
		applied(own(3), true), forced(other(2), true), began(own(5)), committed(own(5), 0), applied(other(2), false), ended(own(5)))
}

// TestSites: P8.1: what is prepared is of any site; a desk is of that one alone.
func TestSites(t *testing.T) {
	l := []api.Record{began(own(4)), committed(own(4), 0), began(third(9)), committed(third(8), 1, 2), prepared(own(4), 1, 2, 3), prepared(third(9), 2, 3, 4), ended(other(8))}
	for site, want := range []api.Desk{{Next: 1}, {Next: 5, Jobs: []api.Job{telling(4, 0)}}, {Next: 10, Jobs: []api.Job{telling(8, 1, 2)}}} {
		s, d, notes, e := recover.Rebuild(conf(), site, l)
		all := rebuilt{api.Store{
			Locks:  []api.Lock{held(own(4), 1, 2, 3), held(third(9), 2, 3, 4)},
			Doubts: []api.Doubt{{Txn: own(4)}, {Txn: third(9)}},
		}, want, nil}
		if got := (rebuilt{s, d, notes}).shown(); e != api.OK || got != all.shown() {
			t.Errorf("at %d: %s, %v, want %s", site, got, e, all.shown())
		}
	}
}
