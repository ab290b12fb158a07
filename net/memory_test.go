package net_test

import (
	"slices"
	"testing"

	"reredos/api"
	"reredos/net"
)

// roomy: the same lists, with spare room in which something stands.
func roomy(fly [][]api.Message) [][]api.Message {
	var next [][]api.Message
	for _, l := range fly {
		next = append(next, append(slices.Clone(l), slices.Repeat([]api.Message{{Kind: 77}}, 9)...)[:len(l)])
	}
	return append(next, slices.Repeat([][]api.Message{{{Kind: 78}}}, 5)...)[:len(fly)]
}

// spread: copies of all lists, with their spare room, and of the lists in the spare room of the whole.
func spread(fly [][]api.Message) [][]api.Message {
	var all [][]api.Message
	for _, l := range fly[:cap(fly)] {
		all = append(all, slices.Clone(l[:cap(l)]))
	}
	return all
}

// scribble over all lists, and over their spare room.
func scribble(fly [][]api.Message) {
	fly = fly[:cap(fly)]
	for i, l := range fly {
		l = l[:cap(l)]
		for j := range l {
			l[j] = api.Message{Kind: -7}
		}
		fly[i] = nil
	}
}

// nexts: all calls that answer what is on its way then, so that each of them leaves lists as they were or changes them.
func nexts() map[string]func(fly [][]api.Message) [][]api.Message {
	send := func(l []api.Message) func(fly [][]api.Message) [][]api.Message {
		return func(fly [][]api.Message) [][]api.Message { x, _ := net.Send(conf(), fly, l); return x }
	}
	take := func(pick, kind int) func(fly [][]api.Message) [][]api.Message {
		return func(fly [][]api.Message) [][]api.Message {
			x, _, _ := net.Take(conf(), fly, 1, 2, pick, kind)
			return x
		}
	}
	return map[string]func(fly [][]api.Message) [][]api.Message{
		"Empty":         func(fly [][]api.Message) [][]api.Message { x, _ := net.Empty(conf()); return x },
		"Send":          send([]api.Message{ack(1, 2, 50), ack(0, 0, 51), ack(1, 2, 52)}),
		"Send (none)":   send(nil),
		"Send (a lot)":  send(acks(2, 2, 50)),
		"Deliver":       take(0, api.Deliver),
		"Drop":          take(1, api.Drop),
		"Copy":          take(0, api.Copy),
		"Take (refuse)": take(-1, api.Copy),
		"Send (refuse)": send([]api.Message{ack(1, 2, 50), {}}),
	}
}

// TestSharesNothing: what is handed in stays, spare room too; no answer shares memory with it, or with another answer.
func TestSharesNothing(t *testing.T) {
	for name, call := range nexts() {
		for _, count := range []int{0, 1, 2, api.MaxFlying} {
			fly := roomy(flying(conf(), count))
			was := spread(fly)
			first, second := call(fly), call(fly)
			want := spread(second)
			if !same(spread(fly), was) {
				t.Errorf("%s: what was handed in was changed: %v", name, fly)
			}
			scribble(first)
			if !same(spread(fly), was) {
				t.Errorf("%s: the answer shares memory with what was handed in: %v", name, fly)
			}
			if !same(spread(second), want) {
				t.Errorf("%s: two answers share memory: %v", name, second)
			}
			scribble(fly)
			if !same(spread(second), want) {
				t.Errorf("%s: what was handed in was kept: %v", name, second)
			}
		}
	}
}

// TestListsShareNothing: no two lists of an answer are pieces of one.
func TestListsShareNothing(t *testing.T) {
	for name, call := range nexts() {
		for _, count := range []int{0, 1, 2, api.MaxFlying} {
			fly := call(flying(conf(), count))
			for i, l := range fly {
				l = l[:cap(l)]
				for j := range l {
					l[j].Kind = -1 - i
				}
			}
			for i, l := range fly {
				for _, m := range l[:cap(l)] {
					if m.Kind != -1-i {
						t.Errorf("%s, %d messages each: list %d is shared", name, count, i)
					}
				}
			}
		}
	}
}

// TestSendKeepsNothing: the messages that are sent are not changed, and may be changed behind the call.
func TestSendKeepsNothing(t *testing.T) {
	l := append(acks(1, 2, 3), ack(0, 0, 77), ack(0, 0, 78))
	was := slices.Clone(l)
	got, e := net.Send(conf(), make([][]api.Message, 9), l[:3])
	if e != api.OK || !slices.Equal(l, was) {
		t.Errorf("%v, %v", l, e)
	}
	for i := range l {
		l[i] = api.Message{Kind: -7}
	}
	if !slices.Equal(got[5], was[:3]) {
		t.Errorf("%v", got[5])
	}
}

// TestCheckChangesNothing: spare room neither.
func TestCheckChangesNothing(t *testing.T) {
	fly := roomy(flying(conf(), 3))
	was := spread(fly)
	if e := net.Check(conf(), fly); e != api.OK || !same(spread(fly), was) {
		t.Errorf("%v, %v", fly, e)
	}
}

// TestOnePlaceTwice: what is handed in may share memory in itself; what comes out does not.
func TestOnePlaceTwice(t *testing.T) {
	room := append(acks(0, 1, 2), acks(1, 0, 2)...)
	c := withSites(2)
	fly := [][]api.Message{nil, room[:2], room[2:], nil} // behind the first of the two stands the other one
	got, e := net.Send(c, fly, []api.Message{ack(0, 1, 3)})
	want := [][]api.Message{nil, acks(0, 1, 3), acks(1, 0, 2), nil}
	if e != api.OK || !same(got, want) || !slices.Equal(room[2:], acks(1, 0, 2)) {
		t.Errorf("Send: %v, %v", got, e)
	}
	got, _, e = net.Take(c, fly, 0, 1, 0, api.Copy)
	want[1] = []api.Message{ack(0, 1, 1), ack(0, 1, 2), ack(0, 1, 1)}
	if e != api.OK || !same(got, want) || !slices.Equal(room[2:], acks(1, 0, 2)) {
		t.Errorf("Take: %v, %v", got, e)
	}
}

// die: numbers that look drawn, the same each time.
type die uint64

func (d *die) n(most int) int {
	*d = *d*6364136223846793005 + 1442695040888963407
	return int(uint64(*d>>33) % uint64(most))
}

// lists: one list of all messages, as a list for each pair of sites.
func lists(c api.Config, all []api.Message) [][]api.Message {
	fly := make([][]api.Message, c.Sites*c.Sites)
	for _, m := range all {
		at := m.From*c.Sites + m.To
		fly[at] = append(fly[at], m)
	}
	return fly
}

// takeOne: as Take, of one list of all messages; the error, and the list then.
func takeOne(all []api.Message, from, to, pick, kind int) ([]api.Message, api.Message, api.Errno) {
	var places []int
	for i, m := range all {
		if m.From == from && m.To == to {
			places = append(places, i)
		}
	}
	if len(places) == 0 {
		return all, api.Message{}, api.ErrNone
	}
	if kind == api.Copy && len(places) == api.MaxFlying {
		return all, api.Message{}, api.ErrFull
	}
	i := places[pick%len(places)]
	m := all[i]
	if kind == api.Copy {
		return append(all, m), m, api.OK
	}
	return slices.Delete(all, i, i+1), m, api.OK
}

// TestDrawn: what drawn calls make of nothing always may be, and is what one list of all messages tells.
func TestDrawn(t *testing.T) {
	for sites := 1; sites <= api.MaxSites; sites++ {
		c, d := withSites(sites), die(sites)
		fly, _ := net.Empty(c)
		var all []api.Message
		for range 1500 {
			var l []api.Message
			for range d.n(4) {
				m := ack(d.n(sites), d.n(sites), 1+d.n(999))
				l = append(l, m)
				if len(lists(c, all)[m.From*sites+m.To]) < api.MaxFlying {
					all = append(all, m)
				}
			}
			next, e := net.Send(c, fly, l)
			if e != api.OK {
				t.Fatalf("%v: %v", l, e)
			}
			fly = next
			from, to, pick, kind := d.n(sites), d.n(sites), d.n(99), api.Deliver+d.n(3)
			next, m, e := net.Take(c, fly, from, to, pick, kind)
			var wantM api.Message
			var wantE api.Errno
			all, wantM, wantE = takeOne(all, from, to, pick, kind)
			if m != wantM || e != wantE {
				t.Fatalf("from %d to %d, pick %d, kind %d: %v, %v, want %v, %v", from, to, pick, kind, m, e, wantM, wantE)
			}
			if e == api.OK {
				fly = next
			}
			if e := net.Check(c, fly); e != api.OK || !same(fly, lists(c, all)) {
				t.Fatalf("%v, %v, want %v", fly, e, all)
			}
		}
	}
}
