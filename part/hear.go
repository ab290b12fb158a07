package part

import (
	"reredos/api"
	"reredos/fresh"
	"reredos/label"
	"reredos/store"
	"reredos/wire"
)

// Hear a message that asks something of a site's keys.
func Hear(c api.Config, l, me int, stores []api.Store, notes []api.Note, room int, m api.Message) (api.Answer, api.Errno) {
	if e := refuseHear(c, l, me, stores, m); e != api.OK {
		return api.Answer{}, e
	}
	a := api.Answer{Store: fresh.Store(stores[l]), Notes: fresh.Notes(notes)}
	switch m.Kind {
	case api.Read:
		return read(a, l, stores, m), api.OK
	case api.Write:
		return write(a, room, m), api.OK
	case api.Check:
		return check(a, l, stores, m), api.OK
	}
	return decide(a, m), api.OK
}

func refuseHear(c api.Config, l, me int, stores []api.Store, m api.Message) api.Errno {
	if e := refuse(c, l, me, stores); e != api.OK {
		return e
	}
	if e := wire.CheckMessage(c, m); e != api.OK {
		return e
	}
	if m.To != me {
		return api.ErrRange
	}
	switch m.Kind {
	case api.Read, api.Check:
		if !label.Above(c.Labels[l], c.Labels[m.Label]) {
			return api.ErrLabel
		}
	case api.Write, api.Decide:
	default:
		return api.ErrKind
	}
	return api.OK
}

// back: a message of that kind to where another one came from, about the same transaction.
func back(kind int, m api.Message) api.Message {
	return api.Message{Kind: kind, From: m.To, To: m.From, Txn: m.Txn}
}

// isTold: who asks is told of these alone; all other refusals are of what came late, or twice, and nobody waits for it.
func isTold(e api.Errno) bool {
	return e == api.OK || e == api.ErrBusy || e == api.ErrFull
}

// read a key: of its own label with a hand on it, of a lower one without a trace.
func read(a api.Answer, l int, stores []api.Store, m api.Message) api.Answer {
	got := back(api.Got, m)
	got.Label, got.Key, got.Ask = m.Label, m.Key, m.Ask
	if m.Label == l {
		var next api.Store
		next, got.Value, got.Version, got.Code = store.Read(a.Store, m.Txn, m.Key)
		if got.Code == api.OK {
			a.Store = next
		}
	} else {
		got.Value, got.Version, got.Code = store.Peek(stores[m.Label], m.Key)
	}
	if isTold(got.Code) {
		a.Messages = []api.Message{got}
	}
	return a
}

// write: what is prepared is on the tape ahead of the word that it is done.
func write(a api.Answer, room int, m api.Message) api.Answer {
	done := back(api.Done, m)
	done.Key, done.Ask = m.Key, m.Ask
	next, e := store.Write(a.Store, m.Txn, m.Key, m.Value, m.Ask)
	if e == api.OK && room < api.RoomWrite {
		e = api.ErrFull
	}
	if e == api.OK {
		a.Store = next
		a.Records = []api.Record{{Kind: api.Prepared, Txn: m.Txn, Key: m.Key, Value: m.Value, Ask: m.Ask}}
	}
	done.Code = e
	if isTold(e) {
		a.Messages = []api.Message{done}
	}
	return a
}

// check whether what was read is as it was.
func check(a api.Answer, l int, stores []api.Store, m api.Message) api.Answer {
	sure := back(api.Sure, m)
	sure.Label, sure.Key, sure.Version = m.Label, m.Key, m.Version
	if m.Label == l {
		sure.Yes, _ = store.Still(a.Store, m.Txn, m.Key, m.Version)
	} else {
		// A key that is about to be written tells no version: it must not pass for one that never was.
		_, version, e := store.Peek(stores[m.Label], m.Key)
		sure.Yes = e == api.OK && version == m.Version
	}
	a.Messages = []api.Message{sure}
	return a
}

// decide: the transaction is over; if an operator had said otherwise, that is damage.
func decide(a api.Answer, m api.Message) api.Answer {
	// Neither is refused: the store and the transaction were asked after ahead of this.
	n, _ := store.Writes(a.Store, m.Txn)
	a.Store, _ = store.End(a.Store, m.Txn, m.Yes)
	// Notes that are damaged anew are remembered, too, though there is nothing left to apply.
	if damage(a.Notes, m) || n > 0 {
		a.Records = []api.Record{{Kind: api.Applied, Txn: m.Txn, Yes: m.Yes}}
	}
	a.Messages = []api.Message{back(api.Ack, m)}
	return a
}

// damage: each note that says otherwise has it then. Had one none before? The list is changed.
func damage(notes []api.Note, m api.Message) bool {
	anew := false
	for i, n := range notes {
		if n.Txn == m.Txn && n.Yes != m.Yes && !n.Damage {
			notes[i].Damage = true
			anew = true
		}
	}
	return anew
}
