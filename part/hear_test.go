package part_test

import (
	"math"
	"slices"
	"testing"

	"reredos/api"
	"reredos/part"
)

// me: the site that hears; other: the one that it hears from.
const (
	me    = 2
	other = 1
)

// hear a message at a site, with some notes and much room.
func hear(l int, ss []api.Store, m api.Message) (api.Answer, api.Errno) {
	return part.Hear(conf(), l, me, ss, someNotes(), api.MaxTape, m)
}

// only a message goes back: the store of a label and the notes are as they were.
func only(s api.Store, l ...api.Message) api.Answer {
	return api.Answer{Store: s, Messages: l, Notes: someNotes()}
}

// back: a message that answers.
func back(kind int, t api.Txn) api.Message {
	return api.Message{Kind: kind, From: me, To: other, Txn: t}
}

// asks: one message of each kind that a site hears, of a label.
func asks(l int) []api.Message {
	return []api.Message{
		{Kind: api.Read, From: other, To: me, Txn: four, Label: l, Key: 6, Ask: 1},
		{Kind: api.Write, From: other, To: me, Txn: four, Key: 6, Value: 1, Ask: 1},
		{Kind: api.Check, From: other, To: me, Txn: four, Label: l, Key: 6},
		{Kind: api.Decide, From: other, To: me, Txn: four},
	}
}

// TestHearRefusesMessages: P6.2: what CheckMessage refuses, ahead of what is refused behind it.
func TestHearRefusesMessages(t *testing.T) {
	for _, x := range []struct {
		m    api.Message
		want api.Errno
	}{
		{api.Message{}, api.ErrKind},
		{api.Message{Kind: -1, From: other, To: me, Txn: one}, api.ErrKind},
		{api.Message{Kind: api.Doubts + 1, From: other, To: me, Txn: one}, api.ErrKind},
		{api.Message{Kind: api.Doubts + 1, From: other, To: 0, Txn: one}, api.ErrKind},
		{api.Message{Kind: api.Decide, From: 3, To: me, Txn: one}, api.ErrRange},
		{api.Message{Kind: api.Decide, From: other, To: me}, api.ErrRange},
		{api.Message{Kind: api.Decide, From: other, To: me, Txn: far}, api.ErrRange},
		{api.Message{Kind: api.Ack, From: other, To: me, Txn: far}, api.ErrRange},
		{api.Message{Kind: api.Read, From: other, To: me, Txn: one, Label: 4}, api.ErrRange},
		{api.Message{Kind: api.Read, From: other, To: me, Txn: one, Label: math.MinInt}, api.ErrRange},
		{api.Message{Kind: api.Read, From: other, To: me, Txn: one, Label: above, Key: api.Keys}, api.ErrRange},
		{api.Message{Kind: api.Read, From: other, To: me, Txn: one, Key: -1}, api.ErrRange},
		{api.Message{Kind: api.Write, From: other, To: me, Txn: one, Value: api.MaxValue + 1}, api.ErrRange},
		{api.Message{Kind: api.Write, From: other, To: me, Txn: one, Ask: -1}, api.ErrRange},
		{api.Message{Kind: api.Check, From: other, To: me, Txn: one, Version: api.MaxVersion + 1}, api.ErrRange},
		{api.Message{Kind: api.Read, From: other, To: me, Txn: one, Label: above, Version: 1}, api.ErrForm},
		{api.Message{Kind: api.Read, From: other, To: 0, Txn: one, Value: 1}, api.ErrForm},
		{api.Message{Kind: api.Write, From: other, To: me, Txn: one, Label: here}, api.ErrForm},
		{api.Message{Kind: api.Check, From: other, To: me, Txn: one, Yes: true}, api.ErrForm},
		{api.Message{Kind: api.Decide, From: other, To: me, Txn: one, Ask: 1}, api.ErrForm},
		{api.Message{Kind: api.Ack, From: other, To: me, Txn: one, Yes: true}, api.ErrForm},
	} {
		a, e := hear(here, stores(), x.m)
		refused(t, "Hear", a, e, x.want)
	}
}

// TestHearRefusesSites: P6.2: a message to another site, whatever it is.
func TestHearRefusesSites(t *testing.T) {
	l := append(asks(here), asks(above)...)
	for kind := api.Got; kind <= api.Doubts; kind++ {
		l = append(l, api.Message{Kind: kind, From: me, Txn: one})
	}
	for _, m := range l {
		for to := range 2 {
			m.To = to
			a, e := hear(here, stores(), m)
			refused(t, "to another site", a, e, api.ErrRange)
		}
	}
}

// TestHearLabels: P6.2: what is read, or asked after, is of a label that is dominated.
func TestHearLabels(t *testing.T) {
	sees := [][]bool{
		low:   {low: true, 3: false},
		here:  {low: true, here: true, 3: false},
		above: {low: true, here: true, above: true, aside: false},
		aside: {low: true, here: false, above: false, aside: true},
	}
	for l := range sees {
		for of, yes := range sees[l] {
			for _, kind := range []int{api.Read, api.Check} {
				m := api.Message{Kind: kind, From: other, To: me, Txn: four, Label: of, Key: 6}
				a, e := hear(l, stores(), m)
				if !yes {
					refused(t, "not dominated", a, e, api.ErrLabel)
				} else if e != api.OK || len(a.Messages) != 1 {
					t.Errorf("%d, kind %d of %d: %v, %v", l, kind, of, a, e)
				}
			}
		}
	}
}

// TestHearKinds: P6.2: all other kinds, also of labels that are not dominated.
func TestHearKinds(t *testing.T) {
	for _, m := range []api.Message{
		{Kind: api.Got}, {Kind: api.Got, Label: above, Key: 6, Value: 1}, {Kind: api.Done}, {Kind: api.Done, Code: api.ErrBusy},
		{Kind: api.Sure}, {Kind: api.Sure, Label: aside, Yes: true}, {Kind: api.Ack}, {Kind: api.Doubts},
	} {
		m.From, m.To, m.Txn = other, me, one
		a, e := hear(here, stores(), m)
		refused(t, "kind", a, e, api.ErrKind)
	}
}

// TestHearSites: P6.2: an answer goes from the site to where the message came from, which may be itself.
func TestHearSites(t *testing.T) {
	for site := range 3 {
		for from := range 3 {
			for i, m := range asks(low) {
				m.From, m.To = from, site
				a, e := part.Hear(conf(), here, site, stores(), someNotes(), api.MaxTape, m)
				kind := []int{api.Got, api.Done, api.Sure, api.Ack}[i]
				if e != api.OK || len(a.Messages) != 1 || !slices.Equal(a.Notes, someNotes()) {
					t.Fatalf("%v: %v, %v", m, a, e)
				}
				if x := a.Messages[0]; x.Kind != kind || x.From != site || x.To != from || x.Txn != four {
					t.Errorf("%v: %v", m, x)
				}
			}
		}
	}
}

// got: what a Read is answered with.
func got(m api.Message, value, version int, code api.Errno) api.Message {
	x := back(api.Got, m.Txn)
	x.Label, x.Key, x.Ask, x.Value, x.Version, x.Code = m.Label, m.Key, m.Ask, value, version, code
	return x
}

// TestReadOwn: P6.3: of its own label.
func TestReadOwn(t *testing.T) {
	locked := func(x api.Txn, key int, doubt bool) func(s *api.Store) {
		return func(s *api.Store) {
			s.Locks = append(s.Locks, api.Lock{Txn: x, Key: key})
			if doubt {
				s.Doubts = append(s.Doubts, api.Doubt{Txn: x})
			}
		}
	}
	none := func(s *api.Store) {}
	for _, x := range []struct {
		what           string
		t              api.Txn
		key, ask       int
		value, version int
		then           func(s *api.Store)
	}{
		{"never written", four, 6, 1, 0, 0, locked(four, 6, true)},
		{"written", four, 2, 0, 20, api.MaxVersion, locked(four, 2, true)},
		{"others read it, too", four, 1, api.MaxNumber, api.MaxValue, 3, locked(four, 1, true)},
		{"in doubt already", two, 3, 4, 0, 0, locked(two, 3, false)},
		{"read already", one, 1, 5, api.MaxValue, 3, none},
		{"its own Write", one, 0, 5, 11, 1, none},
		{"its own Write, never written", three, 4, 5, api.MaxValue, 0, none},
	} {
		m := api.Message{Kind: api.Read, From: other, To: me, Txn: x.t, Label: here, Key: x.key, Ask: x.ask}
		a, e := hear(here, stores(), m)
		answered(t, x.what, a, e, only(change(hereStore(), x.then), got(m, x.value, x.version, api.OK)))
	}
}

// TestReadOwnRefused: P6.3: busy and full are told; of who is over nothing is.
func TestReadOwnRefused(t *testing.T) {
	over := change(crowded(), func(s *api.Store) { s.Over = []api.Txn{four} })
	for _, x := range []struct {
		what string
		s    api.Store
		t    api.Txn
		key  int
		code api.Errno
	}{
		{"another one writes", hereStore(), four, 0, api.ErrBusy},
		{"another one writes, and it has other keys", hereStore(), one, 5, api.ErrBusy},
		{"full", crowded(), four, 6, api.ErrFull},
		{"full, and it has other keys", crowded(), crowded().Locks[0].Txn, 6, api.ErrFull},
	} {
		ss := stores()
		ss[here] = x.s
		m := api.Message{Kind: api.Read, From: other, To: me, Txn: x.t, Label: here, Key: x.key, Ask: 3}
		a, e := hear(here, ss, m)
		answered(t, x.what, a, e, only(x.s, got(m, 0, 0, x.code)))
	}
	for name, x := range map[string]struct {
		s   api.Store
		t   api.Txn
		key int
	}{
		"over":           {hereStore(), gone, 6},
		"over, and busy": {hereStore(), gone, 0},
		"over, and full": {over, four, 6},
	} {
		ss := stores()
		ss[here] = x.s
		a, e := hear(here, ss, api.Message{Kind: api.Read, From: other, To: me, Txn: x.t, Label: here, Key: x.key, Ask: 3})
		answered(t, name, a, e, only(x.s))
	}
}

// TestReadLower: P6.3: from above nothing is left behind, in no store, and nobody's name counts.
func TestReadLower(t *testing.T) {
	for _, x := range []struct {
		of, key        int
		value, version int
		code           api.Errno
	}{
		{low, 0, 0, 0, api.OK},
		{low, 1, 101, 7, api.OK},
		{low, 3, 103, 2, api.OK},
		{low, 4, 0, 0, api.ErrBusy},
		{low, 5, 0, api.MaxVersion, api.OK},
		{here, 0, 0, 0, api.ErrBusy},
		{here, 1, api.MaxValue, 3, api.OK},
		{here, 2, 20, api.MaxVersion, api.OK},
		{here, 7, 0, 0, api.ErrBusy},
	} {
		for _, who := range []api.Txn{one, two, three, four, gone} {
			m := api.Message{Kind: api.Read, From: other, To: me, Txn: who, Label: x.of, Key: x.key, Ask: 9}
			a, e := hear(above, stores(), m)
			answered(t, "from above", a, e, only(stores()[above], got(m, x.value, x.version, x.code)))
			if x.of == low {
				a, e = hear(here, stores(), m)
				answered(t, "from here", a, e, only(hereStore(), got(m, x.value, x.version, x.code)))
			}
		}
	}
	ss := stores()
	ss[low], ss[here] = crowded(), crowded()
	m := api.Message{Kind: api.Read, From: other, To: me, Txn: four, Label: low, Key: 6}
	a, e := hear(here, ss, m)
	answered(t, "there are all locks, but nobody needs one", a, e, only(crowded(), got(m, 0, 0, api.OK)))
}

// done: what a Write is answered with.
func done(m api.Message, code api.Errno) api.Message {
	x := back(api.Done, m.Txn)
	x.Key, x.Ask, x.Code = m.Key, m.Ask, code
	return x
}

// TestWrite: P6.4: prepared, written on the tape, and told.
func TestWrite(t *testing.T) {
	for _, x := range []struct {
		what            string
		t               api.Txn
		key, value, ask int
		then            func(s *api.Store, k api.Lock)
	}{
		{"new", four, 6, 7, 1, func(s *api.Store, k api.Lock) {
			s.Locks, s.Doubts = append(s.Locks, k), append(s.Doubts, api.Doubt{Txn: four})
		}},
		{"in doubt already", two, 3, api.MaxValue, api.MaxNumber, func(s *api.Store, k api.Lock) { s.Locks = append(s.Locks, k) }},
		{"again", one, 0, 12, 2, func(s *api.Store, k api.Lock) { s.Locks[1] = k }},
		{"again, of a later ask", one, 0, 0, 3, func(s *api.Store, k api.Lock) { s.Locks[1] = k }},
		{"the least numbers", three, 5, 0, 0, func(s *api.Store, k api.Lock) { s.Locks[3] = k }},
	} {
		for _, room := range []int{api.RoomWrite, api.RoomWrite + 1, api.MaxTape, math.MaxInt} {
			m := api.Message{Kind: api.Write, From: other, To: me, Txn: x.t, Key: x.key, Value: x.value, Ask: x.ask}
			s := hereStore()
			x.then(&s, api.Lock{Txn: x.t, Key: x.key, Write: true, Value: x.value, Ask: x.ask})
			want := only(s, done(m, api.OK))
			want.Records = []api.Record{{Kind: api.Prepared, Txn: x.t, Key: x.key, Value: x.value, Ask: x.ask}}
			a, e := part.Hear(conf(), here, me, stores(), someNotes(), room, m)
			answered(t, x.what, a, e, want)
		}
		for _, room := range []int{api.RoomWrite - 1, 0, -1, math.MinInt} {
			m := api.Message{Kind: api.Write, From: other, To: me, Txn: x.t, Key: x.key, Value: x.value, Ask: x.ask}
			a, e := part.Hear(conf(), here, me, stores(), someNotes(), room, m)
			answered(t, x.what+", but no room", a, e, only(hereStore(), done(m, api.ErrFull)))
		}
	}
}

// TestWriteRefused: P6.4: busy and full are told, whatever room there is; of who is over, or came late, nothing is.
func TestWriteRefused(t *testing.T) {
	for _, x := range []struct {
		what string
		s    api.Store
		t    api.Txn
		key  int
		ask  int
		code api.Errno
	}{
		{"another one writes", hereStore(), four, 0, 1, api.ErrBusy},
		{"another one reads", hereStore(), four, 1, 1, api.ErrBusy},
		{"another one reads, and it does, too", hereStore(), one, 1, 9, api.ErrBusy},
		{"full", crowded(), four, 6, 1, api.ErrFull},
		{"the last version", hereStore(), four, 2, 1, api.ErrFull},
		{"over", hereStore(), gone, 6, 1, api.ErrOver},
		{"over, and busy", hereStore(), gone, 0, 1, api.ErrOver},
		{"an earlier ask", hereStore(), one, 0, 1, api.ErrOver},
		{"an earlier ask by far", hereStore(), three, 4, 0, api.ErrOver},
	} {
		for _, room := range []int{api.RoomWrite - 1, api.RoomWrite, math.MinInt, api.MaxTape} {
			ss := stores()
			ss[here] = x.s
			m := api.Message{Kind: api.Write, From: other, To: me, Txn: x.t, Key: x.key, Value: 5, Ask: x.ask}
			want := only(x.s)
			if x.code != api.ErrOver {
				want.Messages = []api.Message{done(m, x.code)}
			}
			a, e := part.Hear(conf(), here, me, ss, someNotes(), room, m)
			answered(t, x.what, a, e, want)
		}
	}
}

// TestCheck: P6.5: of its own label by a lock, of a lower one by its version alone.
func TestCheck(t *testing.T) {
	for _, x := range []struct {
		l, of        int
		t            api.Txn
		key, version int
		yes          bool
	}{
		{here, here, one, 1, 3, true}, {here, here, two, 1, 3, true}, {here, here, one, 0, 1, true}, {here, here, three, 4, 0, true},
		{here, here, one, 1, 2, false}, {here, here, one, 1, 4, false}, {here, here, one, 0, 2, false},
		{here, here, four, 1, 3, false}, {here, here, three, 1, 3, false}, {here, here, gone, 6, 0, false}, {here, here, two, 2, api.MaxVersion, false},
		{here, low, one, 1, 7, true}, {here, low, four, 3, 2, true}, {here, low, gone, 3, 2, true}, {here, low, three, 0, 0, true}, {here, low, two, 5, api.MaxVersion, true},
		{here, low, one, 1, 3, false}, {here, low, one, 1, 8, false}, {here, low, two, 0, 1, false},
		{here, low, one, 4, 0, false}, {here, low, four, 4, 0, false}, {here, low, one, 4, 1, false},
		{above, here, one, 1, 3, true}, {above, here, four, 1, 3, true}, {above, here, one, 0, 1, false}, {above, here, three, 7, 0, false},
		{above, above, one, 6, 66, false}, {aside, aside, two, 0, 0, true}, {low, low, one, 4, 0, true},
	} {
		m := api.Message{Kind: api.Check, From: other, To: me, Txn: x.t, Label: x.of, Key: x.key, Version: x.version}
		sure := back(api.Sure, x.t)
		sure.Label, sure.Key, sure.Version, sure.Yes = x.of, x.key, x.version, x.yes
		for _, room := range []int{math.MinInt, 0, api.MaxTape} {
			a, e := part.Hear(conf(), x.l, me, stores(), someNotes(), room, m)
			answered(t, "Check", a, e, only(stores()[x.l], sure))
		}
	}
}

// TestDecide: P6.6: what was prepared is applied, or not, and an Applied is written.
func TestDecide(t *testing.T) {
	for _, x := range []struct {
		t       api.Txn
		yes     bool
		items   func(s *api.Store)
		applied bool
	}{
		{one, true, func(s *api.Store) { s.Items[0] = api.Item{Key: 0, Value: 11, Version: 2} }, true},
		{one, false, func(s *api.Store) {}, true},
		{three, true, func(s *api.Store) {
			s.Items[3] = api.Item{Key: 5, Value: 55, Version: 7}
			s.Items = slices.Insert(s.Items, 3, api.Item{Key: 4, Value: api.MaxValue, Version: 1})
		}, true},
		{three, false, func(s *api.Store) {}, true},
		{two, true, func(s *api.Store) {}, false},
		{two, false, func(s *api.Store) {}, false},
		{four, true, func(s *api.Store) {}, false},
		{four, false, func(s *api.Store) {}, false},
		{gone, true, func(s *api.Store) {}, false},
		{gone, false, func(s *api.Store) {}, false},
	} {
		notes := []api.Note{{Txn: far, Yes: true}, {Txn: far}, {Txn: x.t, Yes: x.yes}, {Txn: x.t, Yes: x.yes, Damage: true}, {Txn: x.t, Yes: !x.yes, Damage: true}}
		for _, room := range []int{math.MinInt, 0, api.MaxTape} {
			want := api.Answer{Store: without(change(hereStore(), x.items), x.t), Messages: []api.Message{back(api.Ack, x.t)}, Notes: notes}
			if x.applied {
				want.Records = []api.Record{{Kind: api.Applied, Txn: x.t, Yes: x.yes}}
			}
			m := api.Message{Kind: api.Decide, From: other, To: me, Txn: x.t, Yes: x.yes}
			a, e := part.Hear(conf(), here, me, stores(), notes, room, m)
			answered(t, "Decide", a, e, want)
			want.Notes = nil
			a, e = part.Hear(conf(), here, me, stores(), nil, room, m)
			answered(t, "Decide, without notes", a, e, want)
		}
	}
}

// TestDecideDamage: P6.6: a note that says otherwise has Damage; if that is new it is written, too.
func TestDecideDamage(t *testing.T) {
	for _, x := range []struct {
		what    string
		t       api.Txn
		yes     bool
		damaged []int // places in someNotes
		applied bool
	}{
		{"forced to abort, and committed", gone, true, []int{2, 6}, true},
		{"forced to commit, and not committed", gone, false, []int{0}, true},
		{"there are locks, too", one, true, []int{1}, true},
		{"as the note says", one, false, nil, true},
		{"no note", four, true, nil, false},
	} {
		notes := someNotes()
		for _, i := range x.damaged {
			notes[i].Damage = true
		}
		a, e := hear(here, stores(), api.Message{Kind: api.Decide, From: other, To: me, Txn: x.t, Yes: x.yes})
		if e != api.OK || !slices.Equal(a.Notes, notes) || !slices.Equal(a.Messages, []api.Message{back(api.Ack, x.t)}) {
			t.Errorf("%s: %v, %v", x.what, a, e)
		}
		var want []api.Record
		if x.applied {
			want = []api.Record{{Kind: api.Applied, Txn: x.t, Yes: x.yes}}
		}
		if !slices.EqualFunc(a.Records, want, sameRecord) {
			t.Errorf("%s: %v", x.what, a.Records)
		}
	}
}

// TestDecideTwice: P6.6: the second time nothing is new: it is acknowledged, and that is all.
func TestDecideTwice(t *testing.T) {
	for _, x := range []api.Txn{one, gone} {
		m := api.Message{Kind: api.Decide, From: other, To: me, Txn: x, Yes: true}
		ss := stores()
		first, e := hear(here, ss, m)
		if e != api.OK || len(first.Records) != 1 {
			t.Fatalf("%v, %v", first, e)
		}
		ss[here] = first.Store
		again, e := part.Hear(conf(), here, me, ss, first.Notes, 0, m)
		answered(t, "again", again, e, api.Answer{Store: first.Store, Messages: first.Messages, Notes: first.Notes})
	}
}

// TestForcedThenDecided: P6.6 and P6.7: what an operator forced stays; if the coordinator says otherwise it is damage.
func TestForcedThenDecided(t *testing.T) {
	for _, forced := range []bool{true, false} {
		for _, decided := range []bool{true, false} {
			ss := stores()
			a, e := part.Force(conf(), here, me, ss, nil, one, forced)
			if e != api.OK {
				t.Fatal(e)
			}
			ss[here] = a.Store
			b, e := part.Hear(conf(), here, me, ss, a.Notes, 0, api.Message{Kind: api.Decide, From: other, To: me, Txn: one, Yes: decided})
			want := api.Answer{Store: a.Store, Messages: []api.Message{back(api.Ack, one)}, Notes: []api.Note{{Txn: one, Yes: forced, Damage: forced != decided}}}
			if forced != decided {
				want.Records = []api.Record{{Kind: api.Applied, Txn: one, Yes: decided}}
			}
			answered(t, "decided", b, e, want)
		}
	}
}
