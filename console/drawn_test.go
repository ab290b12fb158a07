package console_test

import (
	"fmt"
	"math"
	"slices"
	"strings"
	"testing"

	"reredos/api"
	"reredos/console"
	"reredos/label"
	"reredos/store"
)

// die: numbers that look drawn, the same each time.
type die uint64

func (d *die) n(most int) int {
	*d = *d*6364136223846793005 + 1442695040888963407
	return int(uint64(*d>>33) % uint64(most))
}

// txn of few, of the first or the last site that there may be, so that the same one is often drawn again.
func (d *die) txn() api.Txn {
	return api.Txn{Site: d.n(2) * (api.MaxSites - 1), N: 1 + d.n(3)}
}

// config that may be, with labels that look drawn.
func (d *die) config() api.Config {
	c := api.Config{Sites: 1 + d.n(api.MaxSites), Patience: 1 + d.n(3)}
	for range 1 + d.n(api.MaxLabels) {
		if a := (api.Label{Level: d.n(3), Cats: d.n(4)}); !slices.Contains(c.Labels, a) {
			c.Labels = append(c.Labels, a)
		}
	}
	return c
}

// store on which some transactions had a hand.
func (d *die) store() api.Store {
	var s api.Store
	for range d.n(20) {
		next, e := s, api.OK
		switch d.n(6) {
		case 0, 1:
			next, _, _, e = store.Read(s, d.txn(), d.n(api.Keys))
		case 2, 3:
			next, e = store.Write(s, d.txn(), d.n(api.Keys), d.n(50), d.n(3))
		case 4:
			next, e = store.End(s, d.txn(), d.n(2) == 0)
		case 5:
			next, _, e = store.Age(s, 20)
		}
		if e == api.OK {
			s = next
		}
	}
	return s
}

func (d *die) notes() []api.Note {
	var l []api.Note
	for range d.n(5) {
		l = append(l, api.Note{Txn: d.txn(), Yes: d.n(2) == 0, Damage: d.n(2) == 0})
	}
	return l
}

// command of any kind, most often one that tells something.
func (d *die) command() api.Command {
	return api.Command{Kind: 1 + d.n(4), Label: d.n(api.MaxLabels), Txn: d.txn(), Yes: d.n(2) == 0}
}

// site: stores and notes of all labels.
func (d *die) site(c api.Config) ([]api.Store, [][]api.Note) {
	var ss []api.Store
	var ns [][]api.Note
	for range c.Labels {
		ss, ns = append(ss, d.store()), append(ns, d.notes())
	}
	return ss, ns
}

// writes: how many Writes a transaction has, by its locks alone.
func writes(s api.Store, t api.Txn) int {
	n := 0
	for _, k := range s.Locks {
		if k.Txn == t && k.Write {
			n++
		}
	}
	return n
}

// wordly: what P9.2 and P9.3 say, word by word.
func wordly(c api.Config, l int, ss []api.Store, ns [][]api.Note, x api.Command) string {
	if x.Kind == api.Status {
		if x.Label < len(c.Labels) && label.Above(c.Labels[l], c.Labels[x.Label]) && writes(ss[x.Label], x.Txn) > 0 {
			return "prepared\n"
		}
		return "unknown\n"
	}
	out := ""
	for place, a := range c.Labels {
		if !label.Above(c.Labels[l], a) {
			continue
		}
		for _, d := range ss[place].Doubts {
			if x.Kind == api.List && writes(ss[place], d.Txn) > 0 {
				out += fmt.Sprintf("%d %d %d %d\n", place, d.Txn.Site, d.Txn.N, d.Age)
			}
		}
		for _, n := range ns[place] {
			if x.Kind == api.Audit {
				yes, damage := map[bool]string{true: "commit", false: "abort"}[n.Yes], map[bool]string{true: " damage"}[n.Damage]
				out += fmt.Sprintf("%d %d %d %s%s\n", place, n.Txn.Site, n.Txn.N, yes, damage)
			}
		}
	}
	return out
}

// TestDrawn: what is shown is what the words say.
func TestDrawn(t *testing.T) {
	d := die(9)
	seen := map[string]int{}
	for range 20000 {
		c := d.config()
		l, x := d.n(len(c.Labels)), d.command()
		ss, ns := d.site(c)
		got, e := console.Show(c, l, ss, ns, x)
		if x.Kind == api.Force {
			if got != "" || e != api.ErrKind {
				t.Fatalf("%v: %q, %v", x, got, e)
			}
			continue
		}
		if want := wordly(c, l, ss, ns, x); got != want || e != api.OK {
			t.Fatalf("%v, %d, %v, %v, %v: %q, %v; want %q", c, l, ss, ns, x, got, e, want)
		}
		if x.Kind == api.Status {
			seen[got]++
		} else {
			seen[fmt.Sprint(x.Kind)] += strings.Count(got, "\n")
		}
	}
	for _, what := range []string{"prepared\n", "unknown\n", fmt.Sprint(api.List), fmt.Sprint(api.Audit)} {
		if seen[what] < 200 {
			t.Errorf("too little was tried: %v", seen)
		}
	}
}

// TestHidden: what a label does not dominate may be as it likes: what is told is the same.
func TestHidden(t *testing.T) {
	d := die(99)
	changed := 0
	for range 5000 {
		c := d.config()
		l, x := d.n(len(c.Labels)), d.command()
		ss, ns := d.site(c)
		others, otherNotes := d.site(c)
		for place, a := range c.Labels {
			if label.Above(c.Labels[l], a) {
				others[place], otherNotes[place] = ss[place], ns[place]
			} else {
				changed++
			}
		}
		got, e := console.Show(c, l, ss, ns, x)
		if again, f := console.Show(c, l, others, otherNotes, x); got != again || e != f {
			t.Fatalf("%v, %d, %v: %q, %v; then %q, %v", c, l, x, got, e, again, f)
		}
	}
	if changed < 2000 {
		t.Errorf("too little was tried: %d", changed)
	}
}

// roomy: the same list, with spare room in which something stands.
func roomy[T any](l []T, x T) []T {
	return append(slices.Clone(l), slices.Repeat([]T{x}, 5)...)[:len(l)]
}

// spread: all that lists hold, with their spare room, as a text.
func spread(c api.Config, ss []api.Store, ns [][]api.Note) string {
	out := fmt.Sprintln(c.Labels[:cap(c.Labels)])
	for _, s := range ss[:cap(ss)] {
		out += fmt.Sprintln(s.Items[:cap(s.Items)], s.Locks[:cap(s.Locks)], s.Doubts[:cap(s.Doubts)], s.Over[:cap(s.Over)])
	}
	for _, l := range ns[:cap(ns)] {
		out += fmt.Sprintln(l[:cap(l)])
	}
	return out
}

// TestChangesNothing: what is handed in stays as it is, its spare room too; asked again, the answer is the same.
func TestChangesNothing(t *testing.T) {
	d := die(999)
	for range 500 {
		c := d.config()
		ss, ns := d.site(c)
		c.Labels = roomy(c.Labels, api.Label{Level: -7})
		for place, s := range ss {
			ss[place] = api.Store{Items: roomy(s.Items, api.Item{Key: -7}), Locks: roomy(s.Locks, api.Lock{Key: -7}), Doubts: roomy(s.Doubts, api.Doubt{Age: -7}), Over: roomy(s.Over, api.Txn{N: -7})}
			ns[place] = roomy(ns[place], api.Note{Txn: api.Txn{N: -7}})
		}
		ss, ns = roomy(ss, api.Store{Over: []api.Txn{{N: -7}}}), roomy(ns, []api.Note{{Txn: api.Txn{N: -7}}})
		was := spread(c, ss, ns)
		for _, kind := range []int{api.List, api.Status, api.Force, api.Audit} {
			x := d.command()
			x.Kind = kind
			first, e := console.Show(c, 0, ss, ns, x)
			if second, f := console.Show(c, 0, ss, ns, x); first != second || e != f {
				t.Errorf("%v: %q, %v; then %q, %v", x, first, e, second, f)
			}
		}
		if spread(c, ss, ns) != was {
			t.Errorf("what was handed in was changed: %s", was)
		}
	}
}

// wild number: small, at a limit, or out of all bounds.
func (d *die) wild() int {
	l := []int{math.MinInt, math.MaxInt, -1, api.MaxNumber, api.MaxNumber + 1, 0, 1, 2, 3, 4, 5, 6}
	return l[d.n(len(l))]
}

// TestWild: whatever is handed in, the call ends; with an error nothing is told.
func TestWild(t *testing.T) {
	d := die(9999)
	codes := map[api.Errno]int{}
	for range 20000 {
		c := d.config()
		ss, ns := d.site(c)
		l, x := d.n(len(c.Labels)), api.Command{Kind: d.wild(), Label: d.wild(), Txn: api.Txn{Site: d.wild(), N: d.wild()}}
		switch at := d.n(len(ss)); d.n(9) {
		case 0:
			c.Sites, c.Patience = d.wild(), d.wild()
		case 1:
			l = d.wild()
		case 2:
			ss = ss[at:]
		case 3:
			ns[at] = append(ns[at], api.Note{Txn: api.Txn{Site: d.wild(), N: d.wild()}})
		case 4:
			ss[at].Locks = append(ss[at].Locks, api.Lock{Txn: d.txn(), Key: d.wild()})
		case 5:
			ss[at].Over = append(ss[at].Over, api.Txn{Site: d.wild(), N: d.wild()})
		}
		s, e := console.Show(c, l, ss, ns, x)
		codes[e]++
		if e != api.OK && s != "" {
			t.Fatalf("%v, %d, %v, %v, %v: %q, %v", c, l, ss, ns, x, s, e)
		}
	}
	for _, e := range []api.Errno{api.OK, api.ErrRange, api.ErrNone, api.ErrState, api.ErrKind} {
		if codes[e] < 200 {
			t.Errorf("too little was tried: %v", codes)
		}
	}
}

// full store: as many prepared transactions as there may be, and very many that are over.
func full() api.Store {
	var s api.Store
	for key := range api.Keys {
		t := api.Txn{N: 1 + key}
		s.Locks = append(s.Locks, api.Lock{Txn: t, Key: key, Write: true})
		s.Doubts = append(s.Doubts, api.Doubt{Txn: t, Age: key})
	}
	for n := range 100_000 {
		s.Over = append(s.Over, api.Txn{Site: 1, N: 1 + n})
	}
	return s
}

// TestMany: there is no limit to what is over, nor to notes: a line for each.
func TestMany(t *testing.T) {
	c := api.Config{Sites: 1, Patience: 1}
	var ss []api.Store
	var ns [][]api.Note
	for place := range api.MaxLabels {
		c.Labels = append(c.Labels, api.Label{Level: place})
		ss, ns = append(ss, full()), append(ns, slices.Repeat([]api.Note{{Txn: two}}, 50_000))
	}
	list, e := console.Show(c, api.MaxLabels-1, ss, ns, api.Command{Kind: api.List})
	if n := strings.Count(list, "\n"); e != api.OK || n != api.MaxLabels*api.Keys {
		t.Errorf("list: %d lines, %v", n, e)
	}
	audit, e := console.Show(c, api.MaxLabels-1, ss, ns, api.Command{Kind: api.Audit})
	if n := strings.Count(audit, "\n"); e != api.OK || n != api.MaxLabels*50_000 {
		t.Errorf("audit: %d lines, %v", n, e)
	}
}
