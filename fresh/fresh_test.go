package fresh_test

import (
	"slices"
	"testing"

	"reredos/api"
	"reredos/fresh"
)

var (
	t1 = api.Txn{Site: 1, N: 1}
	t2 = api.Txn{Site: 2, N: 2}
)

func some() api.Store {
	return api.Store{
		Items:  []api.Item{{Key: 1, Value: 2, Version: 3}, {Key: 2, Value: 3, Version: 4}},
		Locks:  []api.Lock{{Txn: t1, Key: 4, Write: true, Value: 5, Ask: 6}, {Txn: t2, Key: 1}},
		Doubts: []api.Doubt{{Txn: t1, Age: 7}, {Txn: t2}},
		Over:   []api.Txn{{Site: 3, N: 3}, {Site: 3, N: 4}},
	}
}

func same(a, b api.Store) bool {
	return slices.Equal(a.Items, b.Items) && slices.Equal(a.Locks, b.Locks) && slices.Equal(a.Doubts, b.Doubts) && slices.Equal(a.Over, b.Over)
}

// shorter: so that something stands in the spare room of each list.
func shorter(s api.Store) api.Store {
	return api.Store{Items: s.Items[:1], Locks: s.Locks[:1], Doubts: s.Doubts[:1], Over: s.Over[:1]}
}

// spoil all lists of a store, with their spare room.
func spoil(s api.Store) {
	clear(s.Items[:cap(s.Items)])
	clear(s.Locks[:cap(s.Locks)])
	clear(s.Doubts[:cap(s.Doubts)])
	clear(s.Over[:cap(s.Over)])
}

// TestStore: the same, and shared with nothing.
func TestStore(t *testing.T) {
	was := some()
	part := shorter(was)
	first, second := fresh.Store(part), fresh.Store(part)
	if !same(first, shorter(some())) {
		t.Errorf("%v", first)
	}
	spoil(first)
	if !same(was, some()) || !same(second, shorter(some())) {
		t.Errorf("shared: %v, %v", was, second)
	}
	spoil(was)
	if !same(second, shorter(some())) {
		t.Errorf("shared: %v", second)
	}
	if s := fresh.Store(api.Store{}); !same(s, api.Store{}) {
		t.Errorf("of an empty one: %v", s)
	}
}

// TestNotes: the same, and shared with nothing.
func TestNotes(t *testing.T) {
	was := []api.Note{{Txn: t1, Yes: true}, {Txn: t2, Damage: true}}
	first := fresh.Notes(was[:1])
	if !slices.Equal(first, []api.Note{{Txn: t1, Yes: true}}) {
		t.Errorf("%v", first)
	}
	clear(first[:cap(first)])
	if was[0].Txn != t1 || was[1].Txn != t2 {
		t.Errorf("shared: %v", was)
	}
	if l := fresh.Notes(nil); len(l) != 0 {
		t.Errorf("of none: %v", l)
	}
}

// aDesk: with two jobs, of which each list is longer than what is copied.
func aDesk() api.Desk {
	return api.Desk{Next: 9, Jobs: []api.Job{
		{N: 1, State: api.Telling, Tasks: []api.Task{{Key: 1, Done: true}, {Key: 2}}, Asked: []int{1, 2}, Asks: 3, Age: 4},
		{N: 2, State: api.Active, Tasks: []api.Task{{Key: 3, Write: true}}},
	}}
}

// shorterDesk: so that something stands in the spare room of its lists.
func shorterDesk(d api.Desk) api.Desk {
	j := d.Jobs[0]
	j.Tasks, j.Asked = j.Tasks[:1], j.Asked[:1]
	d.Jobs[0] = j
	d.Jobs = d.Jobs[:1]
	return d
}

func sameJob(a, b api.Job) bool {
	lists := slices.Equal(a.Tasks, b.Tasks) && slices.Equal(a.Asked, b.Asked)
	return lists && a.N == b.N && a.State == b.State && a.Asks == b.Asks && a.Age == b.Age
}

func sameDesk(a, b api.Desk) bool {
	return a.Next == b.Next && slices.EqualFunc(a.Jobs, b.Jobs, sameJob)
}

// spoilDesk: all lists of a desk, with their spare room.
func spoilDesk(d api.Desk) {
	for _, j := range d.Jobs[:cap(d.Jobs)] {
		clear(j.Tasks[:cap(j.Tasks)])
		clear(j.Asked[:cap(j.Asked)])
	}
	clear(d.Jobs[:cap(d.Jobs)])
}

// TestDesk: the same, and shared with nothing.
func TestDesk(t *testing.T) {
	if d := fresh.Desk(aDesk()); !sameDesk(d, aDesk()) {
		t.Errorf("%v", d)
	}
	was := shorterDesk(aDesk())
	first, second := fresh.Desk(was), fresh.Desk(was)
	if !sameDesk(first, shorterDesk(aDesk())) {
		t.Errorf("%v", first)
	}
	spoilDesk(first)
	if !sameDesk(was, shorterDesk(aDesk())) || !sameJob(was.Jobs[:2][1], aDesk().Jobs[1]) || was.Jobs[0].Tasks[:2][1].Key != 2 || was.Jobs[0].Asked[:2][1] != 2 {
		t.Errorf("shared: %v", was)
	}
	spoilDesk(was)
	if !sameDesk(second, shorterDesk(aDesk())) {
		t.Errorf("shared: %v", second)
	}
	if d := fresh.Desk(api.Desk{Next: 1}); d.Next != 1 || len(d.Jobs) != 0 {
		t.Errorf("of an empty one: %v", d)
	}
}
