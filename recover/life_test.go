package recover_test

import (
	"fmt"
	"slices"
	"testing"

	"reredos/api"
	"reredos/coord"
	"reredos/part"
	"reredos/store"
	"reredos/tape"
)

// here: the label whose site lives and is rebuilt.
const here = 1

// life of a label at a site, with its tape.
type life struct {
	d      die
	stores []api.Store
	desk   api.Desk
	notes  []api.Note
	tape   api.Tape
	fly    []api.Message // to the site
}

// write records to the tape; there is room for all, as part and coord are told how much there is.
func (x *life) write(t *testing.T, l []api.Record) {
	t.Helper()
	for _, r := range l {
		next, e := tape.Append(conf(), x.tape, r)
		if e != api.OK {
			t.Fatalf("%v: %v", r, e)
		}
		x.tape = next
	}
}

// keep what is to the site itself, and what the others might answer.
func (x *life) keep(l []api.Message) {
	for _, m := range l {
		if m.To != me {
			m = x.answer(m)
		}
		x.fly = append(x.fly, m)
	}
	x.fly = x.fly[max(len(x.fly)-8, 0):]
}

// answer of another site.
func (x *life) answer(m api.Message) api.Message {
	a := api.Message{From: m.To, To: me, Txn: m.Txn, Key: m.Key, Ask: m.Ask}
	switch m.Kind {
	case api.Read:
		a.Kind, a.Label = api.Got, m.Label
	case api.Write:
		a.Kind = api.Done
	case api.Check:
		a.Kind, a.Label, a.Version, a.Yes = api.Sure, m.Label, m.Version, x.d.n(5) > 0
	case api.Decide:
		a.Kind = api.Ack
	default: // what another site was asked about its own transaction
		a = api.Message{Kind: api.Decide, From: m.To, To: me, Txn: m.Txn, Yes: x.d.n(2) == 0}
	}
	return a
}

// asked: something that another site asks, about a transaction of its own.
func (x *life) asked() api.Message {
	m := api.Message{From: 2 * x.d.n(2), To: me}
	m.Txn = api.Txn{Site: m.From, N: 1 + x.d.n(30)}
	switch x.d.n(3) {
	case 0:
		m.Kind, m.Label, m.Key, m.Ask = api.Read, here, x.d.n(api.Keys), x.d.n(4)
	case 1:
		m.Kind, m.Key, m.Value, m.Ask = api.Write, x.d.n(api.Keys), x.d.n(99), x.d.n(4)
	case 2:
		m.Kind, m.Yes = api.Decide, x.d.n(2) == 0
	}
	return m
}

// hear a message: part hears what is asked, coord what is answered.
func (x *life) hear(t *testing.T, m api.Message) {
	t.Helper()
	if m.Kind > api.Decide {
		u, e := coord.Hear(conf(), here, me, x.desk, m)
		x.turn(t, u, e)
		return
	}
	room, _ := tape.Room(x.tape)
	a, e := part.Hear(conf(), here, me, x.stores, x.notes, room, m)
	x.heard(t, a, e)
}

func (x *life) heard(t *testing.T, a api.Answer, e api.Errno) {
	t.Helper()
	if e == api.OK {
		x.stores[here], x.notes = a.Store, a.Notes
		x.write(t, a.Records)
		x.keep(a.Messages)
	}
}

func (x *life) turn(t *testing.T, u api.Turn, e api.Errno) {
	t.Helper()
	if e == api.OK {
		x.desk = u.Desk
		x.write(t, u.Records)
		x.keep(u.Messages)
	}
}

func (x *life) step(t *testing.T) {
	t.Helper()
	room, _ := tape.Room(x.tape)
	switch x.d.n(20) {
	case 0:
		if locks := x.stores[here].Locks; len(locks) > 0 {
			a, e := part.Force(conf(), here, me, x.stores, x.notes, locks[x.d.n(len(locks))].Txn, x.d.n(2) == 0)
			x.heard(t, a, e)
		}
	case 1:
		u, e := coord.Tick(conf(), here, me, x.desk)
		x.turn(t, u, e)
	case 2, 3, 4, 5, 6, 7, 8, 9:
		c := api.Call{Kind: []int{api.Begin, api.Get, api.Put, api.Put, api.Commit, api.Commit}[x.d.n(6)], N: x.desk.Next - 1 - x.d.n(3), Label: here, Key: x.d.n(api.Keys), Value: x.d.n(50)}
		u, e := coord.Call(conf(), here, me, x.desk, room, c)
		x.turn(t, u, e)
	case 10, 11:
		x.hear(t, x.asked())
	default:
		if len(x.fly) > 0 {
			x.hear(t, x.fly[x.d.n(len(x.fly))])
		}
	}
}

// sorted: locks and doubts by their keys and transactions, as a text: a lock for writing may stand where there was one for reading.
func sorted(s api.Store) string {
	var l []string
	for _, k := range s.Locks {
		l = append(l, fmt.Sprint(k))
	}
	for _, d := range s.Doubts {
		l = append(l, fmt.Sprint("doubt ", d))
	}
	slices.Sort(l)
	return fmt.Sprint(s.Items, l)
}

// told: the jobs that a crash must not take, and whom they are to tell.
func told(d api.Desk) map[int][]int {
	l := map[int][]int{}
	for _, j := range d.Jobs {
		if j.State == api.Telling && slices.ContainsFunc(j.Tasks, func(t api.Task) bool { return t.Write }) {
			l[j.N] = j.Asked
		}
	}
	return l
}

// rebuiltFrom: is what is rebuilt what the site had, but for what a crash may take?
func (x *life) rebuiltFrom(t *testing.T, got rebuilt) {
	t.Helper()
	left, e := store.Forget(x.stores[here])
	if e != api.OK || sorted(got.Store) != sorted(left) {
		t.Fatalf("store: %v, want %v", got.Store, left)
	}
	for _, o := range got.Store.Over {
		if !slices.Contains(left.Over, o) {
			t.Fatalf("%v is not over", o)
		}
	}
	if got.Desk.Next != x.desk.Next || fmt.Sprint(got.Notes) != fmt.Sprint(x.notes) {
		t.Fatalf("%v, %v, want %v, %v", got.Desk, got.Notes, x.desk, x.notes)
	}
	want := told(x.desk)
	if len(want) != len(got.Desk.Jobs) {
		t.Fatalf("desk: %v, want %v", got.Desk, want)
	}
	for _, j := range got.Desk.Jobs {
		asked, ok := want[j.N]
		for _, site := range asked {
			ok = ok && slices.Contains(j.Asked, site)
		}
		if !ok {
			t.Fatalf("desk: %v, want %v", got.Desk, want)
		}
	}
}

// TestLife: what part and coord wrote, and tape recovers, is what they go on with behind a crash.
func TestLife(t *testing.T) {
	tried := map[string]int{}
	for seed := range 300 {
		x := life{d: die(seed), stores: make([]api.Store, len(conf().Labels)), desk: api.Desk{Next: 1}}
		for range 100 + 5*seed%400 {
			x.step(t)
		}
		x.tape, _ = tape.Sync(x.tape)
		left, _ := tape.Crash(x.tape, 0)
		l, _, e := tape.Recover(conf(), left)
		if e != api.OK {
			t.Fatal(e)
		}
		got := rebuild(t, "life", l...)
		x.rebuiltFrom(t, got)
		tried["locks"] += len(got.Store.Locks)
		tried["items"] += len(got.Store.Items)
		tried["jobs"] += len(got.Desk.Jobs)
		tried["notes"] += len(got.Notes)
		for _, n := range got.Notes {
			if n.Damage {
				tried["damage"]++
			}
		}
	}
	for _, what := range []string{"locks", "items", "jobs", "notes", "damage"} {
		if tried[what] < 30 {
			t.Errorf("too little was tried: %v", tried)
		}
	}
}
