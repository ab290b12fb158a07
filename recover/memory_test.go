package recover_test

import (
	"fmt"
	"math"
	"slices"
	"testing"

	"reredos/api"
	"reredos/coord"
	"reredos/recover"
	"reredos/store"
)

// roomyList: the same list, with spare room in which something stands.
func roomyList[T any](l []T, x T) []T {
	return append(slices.Clone(l), slices.Repeat([]T{x}, 9)...)[:len(l)]
}

// roomy: records whose lists have spare room, with something in it.
func roomy(l []api.Record) []api.Record {
	var out []api.Record
	for _, r := range l {
		r.Sites = roomyList(r.Sites, 9)
		out = append(out, r)
	}
	return roomyList(out, api.Record{Kind: 9, Sites: []int{9}})
}

// spread: all that records hold, with their spare room, as a text.
func spread(l []api.Record) string {
	s := ""
	for _, r := range l[:cap(l)] {
		s += fmt.Sprintln(r, r.Sites[:cap(r.Sites)])
	}
	return s
}

// spreadAll: all that is told, with the spare room, as a text.
func spreadAll(x rebuilt) string {
	s := fmt.Sprintln(x.Store.Items[:cap(x.Store.Items)], x.Store.Locks[:cap(x.Store.Locks)], x.Store.Doubts[:cap(x.Store.Doubts)], x.Store.Over[:cap(x.Store.Over)])
	for _, j := range x.Desk.Jobs[:cap(x.Desk.Jobs)] {
		s += fmt.Sprintln(j, j.Asked[:cap(j.Asked)])
	}
	return s + fmt.Sprintln(x.Notes[:cap(x.Notes)])
}

// scribbleList: over its spare room, too.
func scribbleList[T any](l []T, x T) {
	l = l[:cap(l)]
	for i := range l {
		l[i] = x
	}
}

func scribble(l []api.Record) {
	for _, r := range l[:cap(l)] {
		scribbleList(r.Sites, -7)
	}
	scribbleList(l, api.Record{Kind: -7})
}

func scribbleAll(x rebuilt) {
	scribbleList(x.Store.Items, api.Item{Key: -7})
	scribbleList(x.Store.Locks, api.Lock{Key: -7})
	scribbleList(x.Store.Doubts, api.Doubt{Age: -7})
	scribbleList(x.Store.Over, api.Txn{N: -7})
	for _, j := range x.Desk.Jobs[:cap(x.Desk.Jobs)] {
		scribbleList(j.Asked, -7)
		scribbleList(j.Tasks, api.Task{Key: -7})
	}
	scribbleList(x.Desk.Jobs, api.Job{N: -7})
	scribbleList(x.Notes, api.Note{Txn: api.Txn{N: -7}})
}

// apart: no two jobs' lists have memory in common, those in the spare room, too.
func apart(jobs []api.Job) bool {
	seen := map[*int]int{}
	for i, j := range jobs[:cap(jobs)] {
		l := j.Asked[:cap(j.Asked)]
		for at := range l {
			if _, twice := seen[&l[at]]; twice {
				return false
			}
			seen[&l[at]] = i
		}
	}
	return true
}

// TestSharesNothing: what is handed in stays, spare room too; no answer shares memory with it, or with another answer; no two lists of one do.
func TestSharesNothing(t *testing.T) {
	d := die(88)
	lists := [][]api.Record{nil}
	for range 200 {
		lists = append(lists, d.records(d.n(60)))
	}
	for _, given := range lists {
		l := roomy(given)
		was := spread(l)
		first, second := rebuild(t, "roomy", l...), rebuild(t, "roomy", l...)
		want := spreadAll(second)
		if spread(l) != was {
			t.Errorf("%v: what was handed in was changed", given)
		}
		if !apart(first.Desk.Jobs) {
			t.Errorf("%v: two jobs share memory", given)
		}
		scribbleAll(first)
		if spread(l) != was {
			t.Errorf("%v: the answer shares memory with what was handed in", given)
		}
		if spreadAll(second) != want {
			t.Errorf("%v: two answers share memory", given)
		}
		scribble(l)
		if spreadAll(second) != want {
			t.Errorf("%v: what was handed in was kept", given)
		}
	}
}

// TestSitesOnceEach: records that share their list of sites make jobs that do not.
func TestSitesOnceEach(t *testing.T) {
	both := []int{0, 2}
	got := rebuild(t, "both", began(own(9)), committed(own(3), both...), committed(own(1), both...), committed(own(2), both...), ended(own(1)))
	if len(got.Desk.Jobs) != 2 || !apart(got.Desk.Jobs) {
		t.Errorf("two jobs share memory: %v", got.Desk)
	}
	scribbleAll(got)
	if both[0] != 0 || both[1] != 2 {
		t.Errorf("the answer shares memory with what was handed in: %v", both)
	}
}

// die: numbers that look drawn, the same each time.
type die uint64

func (d *die) n(most int) int {
	*d = *d*6364136223846793005 + 1442695040888963407
	return int(uint64(*d>>33) % uint64(most))
}

// record that looks drawn, and may be.
func (d *die) record() api.Record {
	r := api.Record{Kind: api.Prepared + d.n(api.Forced), Txn: api.Txn{Site: d.n(3), N: 1 + d.n(12)}}
	switch r.Kind {
	case api.Prepared:
		r.Key, r.Value, r.Ask = d.n(api.Keys), d.n(99), d.n(4)
	case api.Applied, api.Forced:
		r.Yes = d.n(2) == 0
	case api.Committed:
		for site := range 3 {
			if d.n(2) == 0 {
				r.Sites = append(r.Sites, site)
			}
		}
	}
	return r
}

func (d *die) records(n int) []api.Record {
	var l []api.Record
	for range n {
		l = append(l, d.record())
	}
	return l
}

// wordly: what P8.1 says, word by word, record by record.
func wordly(l []api.Record) rebuilt {
	x := rebuilt{Desk: api.Desk{Next: 1}}
	for _, r := range l {
		switch r.Kind {
		case api.Prepared:
			if next, e := store.Write(x.Store, r.Txn, r.Key, r.Value, r.Ask); e == api.OK {
				x.Store = next
			}
		case api.Applied, api.Forced:
			if next, e := store.End(x.Store, r.Txn, r.Yes); e == api.OK {
				x.Store = next
			}
		}
		if r.Kind == api.Applied {
			for i, n := range x.Notes {
				x.Notes[i].Damage = n.Damage || n.Txn == r.Txn && n.Yes != r.Yes
			}
		}
		if r.Kind == api.Forced {
			x.Notes = append(x.Notes, api.Note{Txn: r.Txn, Yes: r.Yes})
		}
		if r.Txn.Site == me {
			wordlyDesk(&x.Desk, r)
		}
	}
	return x
}

func wordlyDesk(d *api.Desk, r api.Record) {
	has := slices.IndexFunc(d.Jobs, func(j api.Job) bool { return j.N == r.Txn.N })
	switch r.Kind {
	case api.Committed:
		if has < 0 && r.Txn.N < d.Next && len(r.Sites) > 0 && len(d.Jobs) < api.MaxTxns {
			d.Jobs = append(d.Jobs, telling(r.Txn.N, r.Sites...))
			slices.SortFunc(d.Jobs, func(a, b api.Job) int { return a.N - b.N })
		}
	case api.Ended:
		if has >= 0 {
			d.Jobs = slices.Delete(d.Jobs, has, has+1)
		}
	case api.Began:
		if r.Txn.N >= d.Next {
			d.Next = r.Txn.N + 1
		}
	}
}

// TestDrawn: what comes of records is what the words say, and may be.
func TestDrawn(t *testing.T) {
	d := die(8)
	most := map[string]int{}
	for range 3000 {
		l := d.records(d.n(120))
		got := rebuild(t, "drawn", l...)
		if want := wordly(l); got.shown() != want.shown() {
			t.Fatalf("%v: %s, want %s", l, got.shown(), want.shown())
		}
		if store.Check(got.Store) != api.OK || coord.Check(conf(), got.Desk) != api.OK {
			t.Fatalf("%v: %s may not be", l, got.shown())
		}
		most["locks"] = max(most["locks"], len(got.Store.Locks))
		most["items"] = max(most["items"], len(got.Store.Items))
		most["jobs"] = max(most["jobs"], len(got.Desk.Jobs))
		most["notes"] = max(most["notes"], len(got.Notes))
	}
	if most["locks"] < 5 || most["items"] < 4 || most["jobs"] < 5 || most["notes"] < 20 {
		t.Errorf("too little was tried: %v", most)
	}
}

// wild number: small, at a limit, or out of all bounds.
func (d *die) wild() int {
	l := []int{math.MinInt, math.MaxInt, -1, api.MaxNumber, api.MaxNumber + 1, api.MaxValue + 1, 0, 1, 2, 3, 5, 8}
	return l[d.n(len(l))]
}

// spoil a record in one place.
func (d *die) spoil(r api.Record) api.Record {
	switch d.n(7) {
	case 0:
		r.Kind = d.wild()
	case 1:
		r.Txn.Site = d.wild()
	case 2:
		r.Txn.N = d.wild()
	case 3:
		r.Key = d.wild()
	case 4:
		r.Value = d.wild()
	case 5:
		r.Ask = d.wild()
	case 6:
		r.Sites = []int{d.wild(), d.wild()}
	}
	return r
}

// TestWild: whatever is handed in, the call ends; with an error nothing is told.
func TestWild(t *testing.T) {
	d := die(888)
	codes := map[api.Errno]int{}
	for range 20000 {
		c, site, l := conf(), d.n(3), d.records(d.n(9))
		if len(l) > 0 && d.n(3) == 0 {
			at := d.n(len(l))
			l[at] = d.spoil(l[at])
		}
		if d.n(9) == 0 {
			c.Sites, c.Patience, site = d.wild(), d.wild(), d.wild()
		}
		s, desk, notes, e := recover.Rebuild(c, site, l)
		codes[e]++
		if e != api.OK && (rebuilt{s, desk, notes}).shown() != (rebuilt{}).shown() {
			t.Fatalf("%v, %d, %v: %v, %v, %v, %v", c, site, l, s, desk, notes, e)
		}
		if e == api.OK && (store.Check(s) != api.OK || coord.Check(c, desk) != api.OK) {
			t.Fatalf("%v, %d, %v: %v, %v may not be", c, site, l, s, desk)
		}
	}
	for _, e := range []api.Errno{api.OK, api.ErrRange, api.ErrKind, api.ErrForm} {
		if codes[e] < 200 {
			t.Errorf("too little was tried: %v", codes)
		}
	}
}
