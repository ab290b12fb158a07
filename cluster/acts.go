package cluster

import (
	"reredos/api"
	"reredos/console"
	"reredos/coord"
	"reredos/net"
	"reredos/part"
	"reredos/recover"
	"reredos/tape"
)

// What an operator is told, beside what console shows.
const (
	isDown    = "down\n"
	isWrong   = "error\n"
	isDenied  = "denied\n"
	isForced  = "forced\n"
	isFull    = "full\n"
	isUnknown = "unknown\n"
)

// ask: a client's call.
func (w *world) ask(a api.Act) {
	x := a.Call
	if !w.up[a.Site] {
		r := &w.realms[a.Label]
		r.replies = append(r.replies, api.Reply{Site: a.Site, Kind: x.Kind, N: x.N, Key: x.Key, Code: api.ErrDown})
		return
	}
	u, e := coord.Call(w.c, a.Label, a.Site, w.post(a.Label, a.Site).desk, w.room(a.Label, a.Site), x)
	if e == api.OK {
		w.turned(a.Label, a.Site, u)
	}
}

// carry: a message that is on its way is delivered, dropped or copied.
func (w *world) carry(a api.Act) {
	r := &w.realms[a.Label]
	next, m, e := net.Take(w.c, r.fly, a.Site, a.To, a.Pick, a.Kind)
	if e != api.OK {
		return
	}
	r.fly = next
	if a.Kind == api.Deliver && w.up[a.To] {
		w.hear(a.Label, m)
	}
}

// hear a message: what is asked of keys is for the site, what is answered for the coordinator there.
func (w *world) hear(l int, m api.Message) {
	p := w.post(l, m.To)
	switch m.Kind {
	case api.Read, api.Write, api.Check, api.Decide:
		if a, e := part.Hear(w.c, l, m.To, w.stores(m.To), p.notes, w.room(l, m.To), m); e == api.OK {
			w.answered(l, m.To, a)
		}
	default:
		if u, e := coord.Hear(w.c, l, m.To, p.desk, m); e == api.OK {
			w.turned(l, m.To, u)
		}
	}
}

func (w *world) tick() {
	w.ticks++
	for l := range w.realms {
		for site, up := range w.up {
			if up {
				w.tickAt(l, site)
			}
		}
	}
}

func (w *world) tickAt(l, site int) {
	p := w.post(l, site)
	if a, e := part.Tick(w.c, l, site, w.stores(site)); e == api.OK {
		// A tick's answer tells no notes: they stay.
		a.Notes = p.notes
		w.answered(l, site, a)
	}
	if u, e := coord.Tick(w.c, l, site, p.desk); e == api.OK {
		w.turned(l, site, u)
	}
}

// crash a site: of each label what its tape has kept stays, and nothing else.
func (w *world) crash(a api.Act) {
	if !w.up[a.Site] {
		return
	}
	w.up[a.Site] = false
	for l := range w.realms {
		keep := 0
		if l < len(a.Keep) {
			keep = a.Keep[l]
		}
		p := w.post(l, a.Site)
		left, _ := tape.Crash(p.tape, keep)
		*p = bare(left)
	}
}

// start a site anew, from its tapes.
func (w *world) start(site int) {
	if w.up[site] {
		return
	}
	w.up[site] = true
	for l := range w.realms {
		p := w.post(l, site)
		// Neither is refused: the tape comes of its own calls, and records that it tells may be.
		records, left, _ := tape.Recover(w.c, p.tape)
		p.tape = left
		p.store, p.desk, p.notes, _ = recover.Rebuild(w.c, site, records)
	}
}

// typed: an operator's line.
func (w *world) typed(a api.Act) {
	r := &w.realms[a.Label]
	r.console = append(r.console, w.shown(a))
}

// shown to an operator who types a line.
func (w *world) shown(a api.Act) string {
	if !w.up[a.Site] {
		return isDown
	}
	x, e := console.Read(a.Line)
	if e != api.OK {
		return isWrong
	}
	if x.Kind == api.Force {
		return w.force(a.Label, a.Site, x)
	}
	// It is not refused: stores and notes come of their own calls.
	text, _ := console.Show(w.c, a.Label, w.stores(a.Site), w.notes(a.Site), x)
	return text
}

// force what is to become of a transaction: of the operator's own label alone, for what is done from above would be seen below.
func (w *world) force(l, site int, x api.Command) string {
	if x.Label != l {
		return isDenied
	}
	a, e := part.Force(w.c, l, site, w.stores(site), w.post(l, site).notes, x.Txn, x.Yes)
	switch e {
	case api.OK:
		w.answered(l, site, a)
		return isForced
	case api.ErrFull:
		return isFull
	}
	return isUnknown
}
