package cluster_test

import (
	"fmt"
	"slices"
	"testing"

	"reredos/api"
	"reredos/cluster"
	"reredos/label"
	"reredos/net"
	"reredos/recover"
	"reredos/store"
	"reredos/tape"
)

// die: numbers that look drawn, the same each time.
type die uint64

func (d *die) n(most int) int {
	*d = *d*6364136223846793005 + 1442695040888963407
	return int(uint64(*d>>33) % uint64(most))
}

// config that looks drawn, and may be.
func (d *die) config() api.Config {
	c := api.Config{Sites: 1 + d.n(3), Patience: 1 + d.n(9)}
	for n := 1 + d.n(4); len(c.Labels) < n; {
		if x := (api.Label{Level: d.n(3), Cats: d.n(4)}); !slices.Contains(c.Labels, x) {
			c.Labels = append(c.Labels, x)
		}
	}
	return c
}

// drawer of acts: it guesses how many transactions were begun, so that most calls are of one that is there.
type drawer struct {
	d     *die
	c     api.Config
	force bool
	begun map[[2]int]int  // of a label, at a site
	over  map[[2]int]bool // whether the last one is likely to be
	down  map[int]bool
	acts  []api.Act
}

// script that looks drawn, of so many steps; whether operators force anything is told.
func (d *die) script(c api.Config, steps int, force bool) []api.Act {
	x := &drawer{d: d, c: c, force: force, begun: map[[2]int]int{}, over: map[[2]int]bool{}, down: map[int]bool{}}
	for range steps {
		x.step(d.n(c.Sites), d.n(len(c.Labels)))
	}
	return x.acts
}

func (x *drawer) step(site, l int) {
	d := x.d
	switch n := d.n(60); {
	case n < 44:
		x.ask(site, l)
	case n < 52:
		x.acts = append(x.acts, api.Act{Kind: api.Deliver + d.n(3), Site: site, To: d.n(x.c.Sites), Label: l, Pick: d.n(4)})
	case n < 54:
		x.acts = append(x.acts, api.Act{Kind: api.Tick})
	case n < 55:
		x.crash(site)
	case n < 57:
		x.acts = append(x.acts, api.Act{Kind: api.Start, Site: site})
		x.down[site] = false
	default:
		x.acts = append(x.acts, api.Act{Kind: api.Type, Site: site, Label: l, Line: x.line(l)})
	}
}

// crash a site; mostly it starts at once.
func (x *drawer) crash(site int) {
	var keep []int
	for range x.d.n(len(x.c.Labels) + 1) {
		keep = append(keep, x.d.n(30))
	}
	x.acts = append(x.acts, api.Act{Kind: api.Crash, Site: site, Keep: keep})
	x.down[site] = x.d.n(3) == 0
	if !x.down[site] {
		x.acts = append(x.acts, api.Act{Kind: api.Start, Site: site})
	}
	for l := range x.c.Labels {
		x.over[[2]int{l, site}] = true
	}
}

func (x *drawer) line(l int) string {
	d := x.d
	site := d.n(x.c.Sites)
	t := fmt.Sprint(l, " ", site, " ", max(1, x.begun[[2]int{l, site}]-d.n(2)))
	if x.force && d.n(2) == 0 {
		return "force " + t + []string{" commit", " abort"}[d.n(2)]
	}
	return []string{"list", "audit", "status " + t, "status 0 0 1", "force 5 0 1 abort", "what"}[d.n(6)]
}

// ask: a call, and mostly what goes there and back for it.
func (x *drawer) ask(site, l int) {
	a := api.Act{Kind: api.Ask, Site: site, Label: l, Call: x.call(site, l)}
	x.acts = append(x.acts, a)
	if x.d.n(8) == 0 {
		return
	}
	for to := range x.c.Sites {
		for range 1 + x.d.n(2) {
			x.acts = append(x.acts, api.Act{Kind: api.Deliver, Site: site, To: to, Label: l}, api.Act{Kind: api.Deliver, Site: to, To: site, Label: l})
		}
	}
}

func (x *drawer) call(site, l int) api.Call {
	d, at := x.d, [2]int{l, site}
	if !x.down[site] && (x.begun[at] == 0 || x.over[at] || d.n(15) == 0) {
		x.begun[at]++
		x.over[at] = false
		return api.Call{Kind: api.Begin}
	}
	n := x.begun[at]
	if n > 1 && d.n(8) == 0 {
		n--
	}
	switch d.n(12) {
	case 0, 1:
		x.over[at] = d.n(4) > 0
		return api.Call{Kind: api.Commit, N: n}
	case 2:
		x.over[at] = d.n(4) > 0
		return api.Call{Kind: api.Rollback, N: n}
	case 3, 4, 5, 6:
		return api.Call{Kind: api.Put, N: n, Key: d.n(4), Value: 1 + d.n(999)}
	}
	return api.Call{Kind: api.Get, N: n, Label: d.n(len(x.c.Labels)), Key: d.n(4)}
}

// dominated labels, by their places.
func dominated(t *testing.T, c api.Config, l int) []int {
	t.Helper()
	var out []int
	for b := range c.Labels {
		yes, e := label.Sees(c, l, b)
		if e != api.OK {
			t.Fatal(e)
		}
		if yes {
			out = append(out, b)
		}
	}
	return out
}

// fatesOf some labels, in their order.
func fatesOf(l []api.Fate, labels []int) []api.Fate {
	var out []api.Fate
	for _, f := range l {
		if slices.Contains(labels, f.Label) {
			out = append(out, f)
		}
	}
	return out
}

// TestPurged: what a label sees hangs on what it dominates alone: without all else it is the same.
func TestPurged(t *testing.T) {
	d := die(11)
	less := 0
	for range 300 {
		c := d.config()
		l := d.script(c, 20+d.n(150), true)
		whole := run(t, c, l)
		for at := range c.Labels {
			some, e := label.Purge(c, at, l)
			if e != api.OK {
				t.Fatal(e)
			}
			if len(some) < len(l) {
				less++
			}
			purged := run(t, c, some)
			seen := dominated(t, c, at)
			for _, b := range seen {
				if !same(whole.Views[b], purged.Views[b]) {
					t.Fatalf("%v: label %d sees %v; purged: %v", c, at, whole.Views[b], purged.Views[b])
				}
			}
			if !same(whole.Up, purged.Up) || whole.Ticks != purged.Ticks || !same(fatesOf(whole.Fates, seen), fatesOf(purged.Fates, seen)) {
				t.Fatalf("%v: label %d: %v, %v", c, at, whole, purged)
			}
		}
	}
	if less < 300 {
		t.Errorf("too little was tried: %d", less)
	}
}

// mayBe: whether all that is seen is what the other layers take.
func mayBe(c api.Config, o api.Outcome) bool {
	for _, v := range o.Views {
		if net.Check(c, v.Flying) != api.OK || len(v.Tapes) != c.Sites || len(v.Stores) != c.Sites || len(v.Notes) != c.Sites {
			return false
		}
		for site := range c.Sites {
			if _, e := tape.Room(v.Tapes[site]); e != api.OK || store.Check(v.Stores[site]) != api.OK || len(v.Notes[site]) > api.MaxAudit {
				return false
			}
		}
	}
	return true
}

// remembered: whether a site that is up would be as it is behind a crash that keeps all, but for what was read, who is over, and ages.
func remembered(c api.Config, o api.Outcome) bool {
	for _, v := range o.Views {
		for site, up := range o.Up {
			records, _, e := tape.Recover(c, v.Tapes[site])
			s, _, notes, f := recover.Rebuild(c, site, records)
			if e != api.OK || f != api.OK || !up {
				continue
			}
			was, _ := store.Forget(v.Stores[site])
			if !same(s.Items, was.Items) || !sameLocks(s.Locks, was.Locks) || !same(notes, v.Notes[site]) {
				return false
			}
		}
	}
	return true
}

// sameLocks: in whatever order. A read lock that became a Write stands where it was, and one that is rebuilt behind all.
func sameLocks(a, b []api.Lock) bool {
	return len(a) == len(b) && !slices.ContainsFunc(a, func(k api.Lock) bool { return !slices.Contains(b, k) })
}

// TestMayBe: what comes of drawn scripts may be, and is what the tapes remember; act by act, nothing that was replied or shown is taken back.
func TestMayBe(t *testing.T) {
	d := die(111)
	tried := map[string]int{}
	for range 1000 {
		c := d.config()
		l := d.script(c, 20+d.n(150), true)
		o := run(t, c, l)
		if !mayBe(c, o) || !remembered(c, o) {
			t.Fatalf("%v, %v: %v may not be", c, l, o)
		}
		ahead := run(t, c, l[:d.n(len(l))])
		for i, v := range ahead.Views {
			now := o.Views[i]
			if !slices.Equal(now.Replies[:len(v.Replies)], v.Replies) || !slices.Equal(now.Console[:len(v.Console)], v.Console) {
				t.Fatalf("%v, then %v", v, now)
			}
		}
		count(tried, o)
	}
	for _, what := range []string{"fates", "notes", "damage", "items", "locks", "down", "unsynced"} {
		if tried[what] < 20 {
			t.Errorf("too little was tried: %v", tried)
		}
	}
}

// count what a script has come to.
func count(tried map[string]int, o api.Outcome) {
	tried["fates"] += len(o.Fates)
	for _, up := range o.Up {
		if !up {
			tried["down"]++
		}
	}
	for _, v := range o.Views {
		for site, s := range v.Stores {
			tried["items"] += len(s.Items)
			tried["locks"] += len(s.Locks)
			tried["notes"] += len(v.Notes[site])
			for _, n := range v.Notes[site] {
				if n.Damage {
					tried["damage"]++
				}
			}
			if x := v.Tapes[site]; x.Synced < len(x.Data) {
				tried["unsynced"]++
			}
		}
	}
}

// settle: all sites start, and all that is on its way is delivered, with ticks between, until everybody knows.
func settle(c api.Config) []api.Act {
	var l []api.Act
	for site := range c.Sites {
		l = append(l, api.Act{Kind: api.Start, Site: site})
	}
	for range 5 {
		l = append(l, ticks(c.Patience)...)
		for at := range c.Labels {
			for pair := range c.Sites * c.Sites {
				l = append(l, times(api.MaxFlying/2, []api.Act{{Kind: api.Deliver, Site: pair / c.Sites, To: pair % c.Sites, Label: at}})...)
			}
		}
	}
	return l
}

// cell: a key of a label.
type cell struct{ label, key int }

// replay fates one behind another: whether each reads what those ahead have left; and what they leave in the end.
func replay(l []api.Fate) (map[cell]api.Item, bool) {
	all := map[cell]api.Item{}
	for _, f := range l {
		own := map[cell]int{}
		for _, x := range f.Tasks {
			at := cell{x.Label, x.Key}
			if x.Write {
				own[at] = x.Value
				continue
			}
			value, written := own[at]
			if !written {
				value = all[at].Value
			}
			if x.Value != value || x.Version != all[at].Version {
				return nil, false
			}
		}
		for at, value := range own {
			all[at] = api.Item{Key: at.key, Value: value, Version: all[at].Version + 1}
		}
	}
	return all, true
}

// leaves: whether the stores have what fates have left, each key at its site, and nobody has a hand on anything.
func leaves(c api.Config, o api.Outcome, all map[cell]api.Item) bool {
	n := 0
	for l, v := range o.Views {
		for site, s := range v.Stores {
			for _, x := range s.Items {
				if all[cell{l, x.Key}] != x || x.Key%c.Sites != site {
					return false
				}
				n++
			}
			if len(s.Locks) > 0 {
				return false
			}
		}
	}
	return n == len(all)
}

// TestSerial: P11.8: where nobody forces anything, each transaction has read what those have written whose fates stand ahead; in the end that is what is there, whatever was lost, came twice, or crashed.
func TestSerial(t *testing.T) {
	d := die(1111)
	tried := map[string]int{}
	for range 1000 {
		c := d.config()
		for len(c.Labels)*c.Sites*c.Sites > 18 {
			c.Sites--
		}
		l, end := d.script(c, 20+d.n(180), false), settle(c)
		l = append(l[:min(len(l), api.MaxActs-len(end))], end...)
		o := run(t, c, l)
		all, serial := replay(o.Fates)
		if !serial {
			t.Fatalf("%v, %v: %v are not one behind another", c, l, o.Fates)
		}
		if !leaves(c, o, all) {
			t.Fatalf("%v, %v: %v; want %v", c, l, o.Views, all)
		}
		for _, f := range o.Fates {
			tried["fates"]++
			for _, x := range f.Tasks {
				if !x.Write && x.Version > 0 {
					tried["reads"]++
				}
				if x.Label != f.Label {
					tried["below"]++
				}
			}
		}
	}
	if tried["fates"] < 1000 || tried["reads"] < 100 || tried["below"] < 100 {
		t.Errorf("too little was tried: %v", tried)
	}
}

// TestWild: whatever a script is made of, the call ends; if it is refused the place is that of an act, and nothing is told.
func TestWild(t *testing.T) {
	d := die(11111)
	wild := func() int {
		return []int{-1 << 63, 1<<63 - 1, -1, 0, 1, 2, 3, 4, 5, 6, 7, 8, 9, 1 << 20, 1<<20 + 1, 1<<30 + 1}[d.n(16)]
	}
	codes := map[api.Errno]int{}
	for range 3000 {
		c := d.config()
		l := d.script(c, 1+d.n(30), true)
		if d.n(9) == 0 {
			c.Sites, c.Patience = wild(), wild()
		}
		for range d.n(3) {
			a := &l[d.n(len(l))]
			switch d.n(8) {
			case 0:
				a.Kind = wild()
			case 1:
				a.Site = wild()
			case 2:
				a.To = wild()
			case 3:
				a.Label = wild()
			case 4:
				a.Pick = wild()
			case 5:
				a.Keep = append(a.Keep, wild())
			case 6:
				a.Call = api.Call{Kind: wild(), N: wild(), Label: wild(), Key: wild(), Value: wild()}
			case 7:
				a.Line += string(make([]byte, max(0, wild()&127)))
			}
		}
		o, place, e := cluster.Run(c, l)
		codes[e]++
		if e == api.OK && (place != 0 || !mayBe(c, o)) || e != api.OK && (place < 0 || place >= len(l) || !same(o, api.Outcome{})) {
			t.Fatalf("%v, %v: %v, %d, %v", c, l, o, place, e)
		}
	}
	for _, e := range []api.Errno{api.OK, api.ErrRange, api.ErrKind, api.ErrForm} {
		if codes[e] < 100 {
			t.Errorf("too little was tried: %v", codes)
		}
	}
}
