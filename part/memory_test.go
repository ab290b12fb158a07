package part_test

import (
	"reflect"
	"slices"
	"testing"

	"reredos/api"
	"reredos/part"
	"reredos/store"
	"reredos/wire"
)

// roomyList: the same list, with spare room in which something stands.
func roomyList[T any](l []T, x T) []T {
	return append(slices.Clone(l), slices.Repeat([]T{x}, 9)...)[:len(l)]
}

// roomy: stores whose lists have spare room, with something in it.
func roomy(ss []api.Store) []api.Store {
	var l []api.Store
	for _, s := range ss {
		l = append(l, api.Store{
			Items:  roomyList(s.Items, api.Item{Key: 9}),
			Locks:  roomyList(s.Locks, api.Lock{Key: 9}),
			Doubts: roomyList(s.Doubts, api.Doubt{Age: 9}),
			Over:   roomyList(s.Over, api.Txn{N: 9}),
		})
	}
	return roomyList(l, api.Store{Items: []api.Item{{Key: 9}}})
}

// whole copy of a list, with its spare room.
func whole[T any](l []T) []T {
	return slices.Clone(l[:cap(l)])
}

// spread: copies of all lists of a store, with their spare room.
func spread(s api.Store) api.Store {
	return api.Store{Items: whole(s.Items), Locks: whole(s.Locks), Doubts: whole(s.Doubts), Over: whole(s.Over)}
}

// spreadAll: of all stores, those in the spare room, too.
func spreadAll(ss []api.Store) []api.Store {
	var l []api.Store
	for _, s := range ss[:cap(ss)] {
		l = append(l, spread(s))
	}
	return l
}

// spreadAnswer: copies of all its lists, with their spare room.
func spreadAnswer(a api.Answer) api.Answer {
	return api.Answer{Store: spread(a.Store), Messages: whole(a.Messages), Records: whole(a.Records), Notes: whole(a.Notes)}
}

// scribbleList: over its spare room, too.
func scribbleList[T any](l []T, x T) {
	l = l[:cap(l)]
	for i := range l {
		l[i] = x
	}
}

func scribble(s api.Store) {
	scribbleList(s.Items, api.Item{Key: -7})
	scribbleList(s.Locks, api.Lock{Key: -7})
	scribbleList(s.Doubts, api.Doubt{Age: -7})
	scribbleList(s.Over, api.Txn{N: -7})
}

func scribbleAnswer(a api.Answer) {
	scribble(a.Store)
	scribbleList(a.Messages, api.Message{Kind: -7})
	scribbleList(a.Records, api.Record{Kind: -7})
	scribbleList(a.Notes, api.Note{Txn: api.Txn{N: -7}})
}

// calls: of each promise some that change something, and some that change nothing.
func calls() map[string]func(ss []api.Store, notes []api.Note) api.Answer {
	l := map[string]func(ss []api.Store, notes []api.Note) api.Answer{
		"Force": func(ss []api.Store, notes []api.Note) api.Answer {
			a, _ := part.Force(conf(), here, me, ss, notes, one, true)
			return a
		},
		"Force (refused)": func(ss []api.Store, notes []api.Note) api.Answer {
			a, _ := part.Force(conf(), here, me, ss, notes, four, true)
			return a
		},
		"Tick": func(ss []api.Store, notes []api.Note) api.Answer {
			a, _ := part.Tick(conf(), here, me, ss)
			return a
		},
	}
	for name, m := range map[string]api.Message{
		"Read (new)":       {Kind: api.Read, Txn: four, Label: here, Key: 6},
		"Read (again)":     {Kind: api.Read, Txn: one, Label: here, Key: 1},
		"Read (busy)":      {Kind: api.Read, Txn: four, Label: here, Key: 0},
		"Read (over)":      {Kind: api.Read, Txn: gone, Label: here, Key: 0},
		"Read (lower)":     {Kind: api.Read, Txn: one, Label: low, Key: 1},
		"Write (new)":      {Kind: api.Write, Txn: four, Key: 6},
		"Write (again)":    {Kind: api.Write, Txn: one, Key: 0, Ask: 3},
		"Write (busy)":     {Kind: api.Write, Txn: one, Key: 5},
		"Write (over)":     {Kind: api.Write, Txn: gone, Key: 5},
		"Check (own)":      {Kind: api.Check, Txn: one, Label: here, Key: 1, Version: 3},
		"Check (lower)":    {Kind: api.Check, Txn: one, Label: low, Key: 1, Version: 3},
		"Decide (yes)":     {Kind: api.Decide, Txn: three, Yes: true},
		"Decide (no)":      {Kind: api.Decide, Txn: three},
		"Decide (damage)":  {Kind: api.Decide, Txn: gone, Yes: true},
		"Decide (nothing)": {Kind: api.Decide, Txn: four, Yes: true},
		"Hear (refused)":   {Kind: api.Ack, Txn: four},
	} {
		m.From, m.To = other, me
		l["Hear: "+name] = func(ss []api.Store, notes []api.Note) api.Answer {
			a, _ := part.Hear(conf(), here, me, ss, notes, api.MaxTape, m)
			return a
		}
	}
	return l
}

// TestSharesNothing: what is handed in stays, spare room too; no answer shares memory with it, or with another answer.
func TestSharesNothing(t *testing.T) {
	for name, call := range calls() {
		for _, given := range [][]api.Store{stores(), make([]api.Store, 4)} {
			ss, notes := roomy(given), roomyList(someNotes(), api.Note{Txn: one})
			wasStores, wasNotes := spreadAll(ss), whole(notes)
			stays := func() bool {
				return reflect.DeepEqual(spreadAll(ss), wasStores) && slices.Equal(whole(notes), wasNotes)
			}
			first, second := call(ss, notes), call(ss, notes)
			want := spreadAnswer(second)
			if !stays() {
				t.Errorf("%s: what was handed in was changed", name)
			}
			scribbleAnswer(first)
			if !stays() {
				t.Errorf("%s: the answer shares memory with what was handed in", name)
			}
			if !reflect.DeepEqual(spreadAnswer(second), want) {
				t.Errorf("%s: two answers share memory", name)
			}
			for _, s := range ss {
				scribble(s)
			}
			scribbleList(notes, api.Note{Txn: api.Txn{N: -7}})
			if !reflect.DeepEqual(spreadAnswer(second), want) {
				t.Errorf("%s: what was handed in was kept", name)
			}
		}
	}
}

// die: numbers that look drawn, the same each time.
type die uint64

func (d *die) n(most int) int {
	*d = *d*6364136223846793005 + 1442695040888963407
	return int(uint64(*d>>33) % uint64(most))
}

// ask: a message that looks drawn, of a kind that a site hears.
func (d *die) ask() api.Message {
	m := api.Message{Kind: api.Read + d.n(4), From: d.n(3), To: me, Txn: api.Txn{Site: d.n(3), N: 1 + d.n(4)}}
	switch m.Kind {
	case api.Read:
		m.Label, m.Key, m.Ask = d.n(4), d.n(api.Keys), d.n(4)
	case api.Write:
		m.Key, m.Value, m.Ask = d.n(api.Keys), d.n(99), d.n(4)
	case api.Check:
		m.Label, m.Key, m.Version = d.n(4), d.n(api.Keys), d.n(3)
	case api.Decide:
		m.Yes = d.n(2) == 0
	}
	return m
}

// step: a call of a label that looks drawn; and the same one again, of other stores and with the same notes.
func (d *die) step(l int, ss, others []api.Store, notes []api.Note) (a, b api.Answer, e, f api.Errno) {
	switch d.n(12) {
	case 0:
		x, yes := api.Txn{Site: d.n(4), N: 1 + d.n(4)}, d.n(2) == 0
		a, e = part.Force(conf(), l, me, ss, notes, x, yes)
		b, f = part.Force(conf(), l, me, others, notes, x, yes)
	case 1:
		a, e = part.Tick(conf(), l, me, ss)
		b, f = part.Tick(conf(), l, me, others)
		a.Notes, b.Notes = append(a.Notes, notes...), append(b.Notes, notes...)
	default:
		m, room := d.ask(), []int{api.RoomWrite - 1, api.RoomWrite, api.MaxTape}[d.n(3)]
		a, e = part.Hear(conf(), l, me, ss, notes, room, m)
		b, f = part.Hear(conf(), l, me, others, notes, room, m)
	}
	return a, b, e, f
}

// mayBe: whether all that is answered is what the other layers take.
func mayBe(a api.Answer) bool {
	for _, m := range a.Messages {
		if wire.CheckMessage(conf(), m) != api.OK || m.From != me {
			return false
		}
	}
	for _, r := range a.Records {
		if wire.CheckRecord(conf(), r) != api.OK {
			return false
		}
	}
	return store.Check(a.Store) == api.OK
}

// hidden: the same stores, but that those which a label does not dominate are others.
func hidden(l int, ss []api.Store) []api.Store {
	sees := [][]int{low: {low}, here: {low, here}, above: {low, here, above}, aside: {low, aside}}
	others := []api.Store{{}, stores()[above], stores()[low], stores()[here]}
	for _, i := range sees[l] {
		others[i] = ss[i]
	}
	return others
}

// TestDrawn: what comes of calls may be, and hangs on what the label dominates alone.
func TestDrawn(t *testing.T) {
	d := die(6)
	heard := map[api.Errno]int{}
	for range 40 {
		ss, notes := make([]api.Store, 4), make([][]api.Note, 4)
		for range 250 {
			l := d.n(4)
			a, b, e, f := d.step(l, ss, hidden(l, ss), notes[l])
			if e != f || !same(a, b) {
				t.Fatalf("at %d it hangs on what is hidden: %v, %v; %v, %v", l, a, e, b, f)
			}
			heard[e]++
			if e != api.OK {
				continue
			}
			if !mayBe(a) {
				t.Fatalf("at %d: %v", l, a)
			}
			ss[l], notes[l] = a.Store, a.Notes
		}
	}
	if heard[api.OK] < 5000 || heard[api.ErrLabel] < 100 || heard[api.ErrNone] < 100 {
		t.Errorf("too little was tried: %v", heard)
	}
}

// TestReadersLeaveNothing: what is asked from above changes nothing that a lower label is told from then on.
func TestReadersLeaveNothing(t *testing.T) {
	d := die(60)
	for range 400 {
		m := d.ask()
		if m.Kind == api.Write || m.Kind == api.Decide {
			continue
		}
		m.Label = low
		a, e := hear(above, stores(), m)
		if e != api.OK || !sameStore(a.Store, stores()[above]) || len(a.Records) != 0 {
			t.Fatalf("%v: %v, %v", m, a, e)
		}
	}
}
