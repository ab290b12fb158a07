package cluster

import (
	"reredos/api"
	"reredos/net"
	"reredos/tape"
)

// world of all sites and labels, as far as the script has come.
type world struct {
	c      api.Config
	realms []realm
	up     []bool
	ticks  int
	fates  []fate
}

// realm of a label: what is seen of it, beside what it has at its sites.
type realm struct {
	replies []api.Reply
	console []string
	fly     [][]api.Message
	posts   []post
}

// post of a label at a site.
type post struct {
	tape  api.Tape
	store api.Store
	desk  api.Desk
	notes []api.Note
}

// bare post: nothing is remembered but what is on the tape.
func bare(t api.Tape) post {
	return post{tape: t, desk: api.Desk{Next: 1}}
}

// open a world, of a config that may be: all sites are up, and nothing is there yet.
func open(c api.Config) *world {
	w := &world{c: c}
	for range c.Sites {
		w.up = append(w.up, true)
	}
	for range c.Labels {
		fly, _ := net.Empty(c)
		r := realm{fly: fly}
		for range c.Sites {
			r.posts = append(r.posts, bare(api.Tape{}))
		}
		w.realms = append(w.realms, r)
	}
	return w
}

func (w *world) post(l, site int) *post {
	return &w.realms[l].posts[site]
}

// stores of all labels at a site.
func (w *world) stores(site int) []api.Store {
	var l []api.Store
	for _, r := range w.realms {
		l = append(l, r.posts[site].store)
	}
	return l
}

// notes of all labels at a site.
func (w *world) notes(site int) [][]api.Note {
	var l [][]api.Note
	for _, r := range w.realms {
		l = append(l, r.posts[site].notes)
	}
	return l
}

// room that is free on a label's tape at a site.
func (w *world) room(l, site int) int {
	// It is not refused: the tape comes of its own calls.
	n, _ := tape.Room(w.post(l, site).tape)
	return n
}

// answered: what comes of what a site does with its keys.
func (w *world) answered(l, site int, a api.Answer) {
	p := w.post(l, site)
	p.store, p.notes = a.Store, a.Notes
	w.write(p, a.Records)
	w.send(l, a.Messages)
}

// turned: what comes of a coordinator's turn.
func (w *world) turned(l, site int, u api.Turn) {
	p := w.post(l, site)
	w.foretell(l, site, u)
	p.desk = u.Desk
	w.write(p, u.Records)
	w.send(l, u.Messages)
	r := &w.realms[l]
	r.replies = append(r.replies, u.Replies...)
}

// write records to a tape. Those that a full one does not take are lost, and all else goes on: a record that is to be safe has the tape synced whether there was room for it or not.
func (w *world) write(p *post, l []api.Record) {
	safe := false
	for _, r := range l {
		if next, e := tape.Append(w.c, p.tape, r); e == api.OK {
			p.tape = next
		}
		safe = safe || mustBeSafe(r)
	}
	if safe {
		p.tape, _ = tape.Sync(p.tape)
	}
}

// mustBeSafe: an Ended or an Applied without Yes may be lost in a crash, for what is asked again behind it comes out the same.
func mustBeSafe(r api.Record) bool {
	return r.Kind != api.Ended && (r.Kind != api.Applied || r.Yes)
}

func (w *world) send(l int, messages []api.Message) {
	if len(messages) == 0 {
		// Most ticks send nothing: all that is on its way need not be looked through for that.
		return
	}
	r := &w.realms[l]
	if next, e := net.Send(w.c, r.fly, messages); e == api.OK {
		r.fly = next
	}
}

// outcome: what is seen of it all. The world's own lists are handed out, for it ends here.
func (w *world) outcome() api.Outcome {
	o := api.Outcome{Up: w.up, Ticks: w.ticks, Fates: told(w.fates)}
	for _, r := range w.realms {
		o.Views = append(o.Views, r.view())
	}
	return o
}

func (r realm) view() api.View {
	v := api.View{Replies: r.replies, Console: r.console, Flying: r.fly}
	for _, p := range r.posts {
		v.Tapes = append(v.Tapes, p.tape)
		v.Stores = append(v.Stores, p.store)
		v.Notes = append(v.Notes, p.notes)
	}
	return v
}
