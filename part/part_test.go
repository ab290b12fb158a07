package part_test

import (
	"math"
	"slices"
	"testing"

	"reredos/api"
	"reredos/part"
	"reredos/store"
)

var (
	one   = api.Txn{Site: 0, N: 1}
	two   = api.Txn{Site: 1, N: 2}
	three = api.Txn{Site: 2, N: api.MaxNumber}
	four  = api.Txn{Site: 2, N: 1}
	gone  = api.Txn{Site: 0, N: 2}
	far   = api.Txn{Site: 3, N: 1} // of a site that the config has not
)

// here: the label whose site most tests ask: it dominates low and itself alone.
const (
	low   = 0
	here  = 1
	above = 2
	aside = 3 // it dominates low; neither it nor here dominates the other one
)

func conf() api.Config {
	return api.Config{Sites: 3, Labels: []api.Label{{}, {Level: 1}, {Level: 2, Cats: 1}, {Cats: 2}}, Patience: 3}
}

// badConfigs: each with what label's Check says of it.
func badConfigs() map[api.Errno]api.Config {
	size, twice, bound := conf(), conf(), conf()
	size.Labels = nil
	twice.Labels = []api.Label{{}, {Level: 1}, {}, {Cats: 2}}
	bound.Patience = 0
	return map[api.Errno]api.Config{api.ErrSize: size, api.ErrTwice: twice, api.ErrRange: bound}
}

// lowStore: 4 is written by somebody who has the name of one here, 3 is read.
func lowStore() api.Store {
	return api.Store{
		Items:  []api.Item{{Key: 1, Value: 101, Version: 7}, {Key: 3, Value: 103, Version: 2}, {Key: 5, Value: 0, Version: api.MaxVersion}},
		Locks:  []api.Lock{{Txn: one, Key: 4, Write: true, Value: 44, Ask: 1}, {Txn: four, Key: 3}},
		Doubts: []api.Doubt{{Txn: four, Age: 2}, {Txn: one, Age: 1}},
		Over:   []api.Txn{three},
	}
}

// hereStore: one reads 1 and writes 0, two reads 1, three writes 5 and 4, far writes 7; 2, 3 and 6 are free, 2 for the last time.
func hereStore() api.Store {
	return api.Store{
		Items: []api.Item{{Key: 0, Value: 9, Version: 1}, {Key: 1, Value: api.MaxValue, Version: 3}, {Key: 2, Value: 20, Version: api.MaxVersion}, {Key: 5, Value: 50, Version: 6}},
		Locks: []api.Lock{
			{Txn: one, Key: 1},
			{Txn: one, Key: 0, Write: true, Value: 11, Ask: 2},
			{Txn: two, Key: 1},
			{Txn: three, Key: 5, Write: true, Value: 55},
			{Txn: far, Key: 7, Write: true, Value: 77, Ask: 1},
			{Txn: three, Key: 4, Write: true, Value: api.MaxValue, Ask: api.MaxNumber},
		},
		Doubts: []api.Doubt{{Txn: two, Age: 2}, {Txn: far, Age: 5}, {Txn: one}, {Txn: three, Age: 1}},
		Over:   []api.Txn{gone, {Site: 3, N: 9}},
	}
}

// stores of all labels at the site.
func stores() []api.Store {
	return []api.Store{
		low:   lowStore(),
		here:  hereStore(),
		above: {Items: []api.Item{{Key: 6, Value: 600, Version: 66}}, Over: []api.Txn{one, two}},
		aside: {Items: []api.Item{{Key: 1, Value: 300, Version: 33}}, Locks: []api.Lock{{Txn: two, Key: 0}}, Doubts: []api.Doubt{{Txn: two}}},
	}
}

// crowded store: it has all the locks that there may be; all are of readers, of 3 and 4 alone.
func crowded() api.Store {
	var s api.Store
	for i := range api.MaxLocks / 2 {
		t := api.Txn{Site: i % 3, N: 100 + i}
		s.Locks = append(s.Locks, api.Lock{Txn: t, Key: 3}, api.Lock{Txn: t, Key: 4})
		s.Doubts = append(s.Doubts, api.Doubt{Txn: t})
	}
	return s
}

// change a store.
func change(s api.Store, f func(s *api.Store)) api.Store {
	f(&s)
	return s
}

// without: a store in which a transaction has no hand on anything, and is over.
func without(s api.Store, t api.Txn) api.Store {
	s.Locks = slices.DeleteFunc(s.Locks, func(k api.Lock) bool { return k.Txn == t })
	s.Doubts = slices.DeleteFunc(s.Doubts, func(d api.Doubt) bool { return d.Txn == t })
	if !slices.Contains(s.Over, t) {
		s.Over = append(s.Over, t)
	}
	return s
}

// someNotes: of gone and one, that an operator had his word on, and of far.
func someNotes() []api.Note {
	return []api.Note{
		{Txn: gone, Yes: true}, {Txn: one}, {Txn: gone}, {Txn: gone, Damage: true}, {Txn: far, Yes: true}, {Txn: gone, Yes: true, Damage: true}, {Txn: gone},
	}
}

func sameStore(a, b api.Store) bool {
	return slices.Equal(a.Items, b.Items) && slices.Equal(a.Locks, b.Locks) && slices.Equal(a.Doubts, b.Doubts) && slices.Equal(a.Over, b.Over)
}

func sameRecord(a, b api.Record) bool {
	sites := slices.Equal(a.Sites, b.Sites)
	return sites && a.Kind == b.Kind && a.Txn == b.Txn && a.Key == b.Key && a.Value == b.Value && a.Ask == b.Ask && a.Yes == b.Yes
}

// same: whether lists are nil or empty does not count.
func same(a, b api.Answer) bool {
	return sameStore(a.Store, b.Store) && slices.Equal(a.Messages, b.Messages) && slices.EqualFunc(a.Records, b.Records, sameRecord) && slices.Equal(a.Notes, b.Notes)
}

// refused: the error, and nothing beside it.
func refused(t *testing.T, what string, a api.Answer, e, want api.Errno) {
	t.Helper()
	if e != want || !same(a, api.Answer{}) {
		t.Errorf("%s: %v, %v; want %v", what, a, e, want)
	}
}

// answered as it should be.
func answered(t *testing.T, what string, a api.Answer, e api.Errno, want api.Answer) {
	t.Helper()
	if e != api.OK || !same(a, want) {
		t.Errorf("%s:\n%v, %v; want\n%v", what, a, e, want)
	}
}

// allRefuse: each call, with what is right behind it, and with what is wrong.
func allRefuse(t *testing.T, what string, c api.Config, l, me int, ss []api.Store, want api.Errno) {
	t.Helper()
	for _, m := range []api.Message{{Kind: api.Decide, From: 1, To: me, Txn: one}, {Kind: -1}, {Kind: api.Ack, To: 1, Txn: one}, {Kind: api.Read, To: me, Txn: one, Label: above}} {
		a, e := part.Hear(c, l, me, ss, someNotes(), 6000, m)
		refused(t, "Hear: "+what, a, e, want)
	}
	for _, x := range []api.Txn{one, {}, four} {
		a, e := part.Force(c, l, me, ss, someNotes(), x, true)
		refused(t, "Force: "+what, a, e, want)
		a, e = part.Force(c, l, me, ss, make([]api.Note, api.MaxAudit), x, false)
		refused(t, "Force: "+what, a, e, want)
	}
	a, e := part.Tick(c, l, me, ss)
	refused(t, "Tick: "+what, a, e, want)
}

// outside: numbers that are not from 0 to high.
func outside(high int) []int {
	return []int{-1, high + 1, math.MinInt, math.MaxInt}
}

// badStores: there is not one for each label, or one may not be, of whatever label.
func badStores() map[string][]api.Store {
	l := map[string][]api.Store{
		"none":         nil,
		"one":          stores()[:1],
		"one too few":  stores()[:3],
		"one too many": append(stores(), api.Store{}),
		"very many":    make([]api.Store, 1<<12),
	}
	for i, name := range []string{"low", "here", "above", "aside"} {
		spoil := func(what string, f func(s *api.Store)) {
			ss := stores()
			f(&ss[i])
			l[name+": "+what] = ss
		}
		spoil("a key that is none", func(s *api.Store) { s.Items = []api.Item{{Key: api.Keys, Version: 1}} })
		spoil("a version that is none", func(s *api.Store) { s.Items = []api.Item{{Key: 1}} })
		spoil("a lock without a doubt", func(s *api.Store) { s.Locks = append(s.Locks, api.Lock{Txn: api.Txn{N: 77}, Key: 6}) })
		spoil("a doubt without a lock", func(s *api.Store) { s.Doubts = append(s.Doubts, api.Doubt{Txn: api.Txn{N: 77}}) })
		spoil("over twice", func(s *api.Store) { s.Over = append(s.Over, s.Over...); s.Over = append(s.Over, four, four) })
		spoil("a transaction that is none", func(s *api.Store) { s.Over = append(s.Over, api.Txn{}) })
	}
	return l
}

// TestRefuses: P6.1: what all calls refuse, in its order, ahead of all else.
func TestRefuses(t *testing.T) {
	for want, c := range badConfigs() {
		allRefuse(t, "config", c, here, 2, stores(), want)
		allRefuse(t, "config, and all else", c, -1, -1, nil, want)
	}
	for _, l := range outside(3) {
		allRefuse(t, "label", conf(), l, 2, stores(), api.ErrNone)
		allRefuse(t, "label, and all else", conf(), l, 3, nil, api.ErrNone)
	}
	for _, me := range outside(2) {
		allRefuse(t, "site", conf(), here, me, stores(), api.ErrRange)
		allRefuse(t, "site, and all else", conf(), here, me, nil, api.ErrRange)
	}
	for name, ss := range badStores() {
		for l := range 4 {
			allRefuse(t, name, conf(), l, 2, ss, api.ErrState)
		}
	}
}

// TestForce: P6.7: with yes its writes are there, and it is over; a record and a note tell of it.
func TestForce(t *testing.T) {
	for _, x := range []struct {
		t     api.Txn
		yes   bool
		items func(s *api.Store)
	}{
		{one, true, func(s *api.Store) { s.Items[0] = api.Item{Key: 0, Value: 11, Version: 2} }},
		{one, false, func(s *api.Store) {}},
		{three, true, func(s *api.Store) {
			s.Items[3] = api.Item{Key: 5, Value: 55, Version: 7}
			s.Items = slices.Insert(s.Items, 3, api.Item{Key: 4, Value: api.MaxValue, Version: 1})
		}},
		{three, false, func(s *api.Store) {}},
		{far, true, func(s *api.Store) { s.Items = append(s.Items, api.Item{Key: 7, Value: 77, Version: 1}) }},
		{far, false, func(s *api.Store) {}},
	} {
		for _, notes := range [][]api.Note{nil, {}, someNotes(), make([]api.Note, api.MaxAudit-1)} {
			for me := range 3 {
				want := api.Answer{
					Store:   without(change(hereStore(), x.items), x.t),
					Records: []api.Record{{Kind: api.Forced, Txn: x.t, Yes: x.yes}},
					Notes:   append(slices.Clone(notes), api.Note{Txn: x.t, Yes: x.yes}),
				}
				a, e := part.Force(conf(), here, me, stores(), notes, x.t, x.yes)
				answered(t, "Force", a, e, want)
			}
		}
	}
	want := api.Answer{
		Store:   without(lowStore(), one),
		Records: []api.Record{{Kind: api.Forced, Txn: one}},
		Notes:   []api.Note{{Txn: one}},
	}
	a, e := part.Force(conf(), low, 1, stores(), nil, one, false)
	answered(t, "Force, at low", a, e, want)
}

// TestForceRefuses: P6.7: the error that is named first.
func TestForceRefuses(t *testing.T) {
	full := make([]api.Note, api.MaxAudit)
	for _, yes := range []bool{true, false} {
		for _, notes := range [][]api.Note{nil, full} {
			for _, x := range []api.Txn{{}, {Site: -1, N: 1}, {Site: api.MaxSites, N: 1}, {N: -1}, {N: api.MaxNumber + 1}, {Site: math.MaxInt, N: math.MinInt}} {
				a, e := part.Force(conf(), here, 0, stores(), notes, x, yes)
				refused(t, "a transaction that is none", a, e, api.ErrRange)
			}
			for name, x := range map[string]api.Txn{"it reads alone": two, "it has no lock": four, "it is over": gone} {
				a, e := part.Force(conf(), here, 0, stores(), notes, x, yes)
				refused(t, name, a, e, api.ErrNone)
			}
			for _, l := range []int{above, aside} {
				a, e := part.Force(conf(), l, 0, stores(), notes, one, yes)
				refused(t, "it is prepared at another label", a, e, api.ErrNone)
			}
		}
		for _, n := range []int{api.MaxAudit, api.MaxAudit + 1, 5000} {
			a, e := part.Force(conf(), here, 0, stores(), make([]api.Note, n), one, yes)
			refused(t, "too many notes", a, e, api.ErrFull)
		}
	}
}

// TestForceTwice: P6.7: who was forced has no lock any more.
func TestForceTwice(t *testing.T) {
	ss := stores()
	a, e := part.Force(conf(), here, 0, ss, nil, one, true)
	if e != api.OK {
		t.Fatal(e)
	}
	ss[here] = a.Store
	a, e = part.Force(conf(), here, 0, ss, a.Notes, one, false)
	refused(t, "again", a, e, api.ErrNone)
}

// doubts: what a site asks after each of some transactions.
func doubts(me int, l ...api.Txn) []api.Message {
	var ms []api.Message
	for _, x := range l {
		ms = append(ms, api.Message{Kind: api.Doubts, From: me, To: x.Site, Txn: x})
	}
	return ms
}

// TestTick: P6.8: with each patience; nobody asks a site that is none.
func TestTick(t *testing.T) {
	for _, x := range []struct {
		patience int
		ages     []int // of two, far, one and three
		told     []api.Txn
	}{
		{1, []int{0, 0, 0, 0}, []api.Txn{two, one, three}},
		{2, []int{0, 0, 1, 0}, []api.Txn{two, three}},
		{3, []int{0, 0, 1, 2}, []api.Txn{two}},
		{4, []int{3, 0, 1, 2}, nil},
		{6, []int{3, 0, 1, 2}, nil},
		{7, []int{3, 6, 1, 2}, nil},
		{api.MaxAge, []int{3, 6, 1, 2}, nil},
	} {
		for me := range 3 {
			c := conf()
			c.Patience = x.patience
			want := api.Answer{Store: hereStore(), Messages: doubts(me, x.told...)}
			for i, n := range x.ages {
				want.Store.Doubts[i].Age = n
			}
			a, e := part.Tick(c, here, me, stores())
			answered(t, "Tick", a, e, want)
		}
	}
}

// TestTickSites: P6.8: whether a Site is one hangs on the config.
func TestTickSites(t *testing.T) {
	for sites := 1; sites <= api.MaxSites; sites++ {
		c := conf()
		c.Sites, c.Patience = sites, 1
		var told []api.Txn
		for _, d := range hereStore().Doubts {
			if d.Txn.Site < sites {
				told = append(told, d.Txn)
			}
		}
		a, e := part.Tick(c, here, 0, stores())
		if e != api.OK || !slices.Equal(a.Messages, doubts(0, told...)) {
			t.Errorf("%d sites: %v, %v", sites, a.Messages, e)
		}
	}
}

// TestTickLabels: P6.8: each label has its own doubts, and only they are aged.
func TestTickLabels(t *testing.T) {
	ss := stores()
	ss[low].Doubts[0].Age, ss[aside].Doubts[0].Age = 2, 1
	for l, want := range []api.Answer{
		low:   {Store: change(lowStore(), func(s *api.Store) { s.Doubts[0].Age, s.Doubts[1].Age = 0, 2 }), Messages: doubts(1, four)},
		above: {Store: stores()[above]},
		aside: {Store: change(stores()[aside], func(s *api.Store) { s.Doubts[0].Age = 2 })},
	} {
		if l != here {
			a, e := part.Tick(conf(), l, 1, ss)
			answered(t, "Tick", a, e, want)
		}
	}
}

// TestStoreMayBe: the stores of these tests are stores.
func TestStoreMayBe(t *testing.T) {
	for i, s := range append(stores(), crowded()) {
		if e := store.Check(s); e != api.OK {
			t.Errorf("%d: %v", i, e)
		}
	}
}
