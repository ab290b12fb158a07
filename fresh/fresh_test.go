package fresh_test

import (
	"slices"
	"testing"

	"reredos/api"
	"reredos/fresh"
)

var (
	t1 = api.Txn{Site: 1, N: 1}
	t2 = api.Txn{Site: 2, N: 2}
)

func some() api.Store {
	return api.Store{
		Items:  []api.Item{{Key: 1, Value: 2, Version: 3}, {Key: 2, Value: 3, Version: 4}},
		Locks:  []api.Lock{{Txn: t1, Key: 4, Write: true, Value: 5, Ask: 6}, {Txn: t2, Key: 1}},
		Doubts: []api.Doubt{{Txn: t1, Age: 7}, {Txn: t2}},
		Over:   []api.Txn{{Site: 3, N: 3}, {Site: 3, N: 4}},
	}
}

func same(a, b api.Store) bool {
	return slices.Equal(a.Items, b.Items) && slices.Equal(a.Locks, b.Locks) && slices.Equal(a.Doubts, b.Doubts) && slices.Equal(a.Over, b.Over)
}

// shorter: so that something stands in the spare room of each list.
func shorter(s api.Store) api.Store {
	return api.Store{Items: s.Items[:1], Locks: s.Locks[:1], Doubts: s.Doubts[:1], Over: s.Over[:1]}
}

// spoil all lists of a store, with their spare room.
func spoil(s api.Store) {
	clear(s.Items[:cap(s.Items)])
	clear(s.Locks[:cap(s.Locks)])
	clear(s.Doubts[:cap(s.Doubts)])
	clear(s.Over[:cap(s.Over)])
}

// TestStore: the same, and shared with nothing.
func TestStore(t *testing.T) {
	was := some()
	part := shorter(was)
	first, second := fresh.Store(part), fresh.Store(part)
	if !same(first, shorter(some())) {
		t.Errorf("%v", first)
	}
	spoil(first)
	if !same(was, some()) || !same(second, shorter(some())) {
		t.Errorf("shared: %v, %v", was, second)
	}
	spoil(was)
	if !same(second, shorter(some())) {
		t.Errorf("shared: %v", second)
	}
	if s := fresh.Store(api.Store{}); !same(s, api.Store{}) {
		t.Errorf("of an empty one: %v", s)
	}
}

// TestNotes: the same, and shared with nothing.
func TestNotes(t *testing.T) {
	was := []api.Note{{Txn: t1, Yes: true}, {Txn: t2, Damage: true}}
	first := fresh.Notes(was[:1])
	if !slices.Equal(first, []api.Note{{Txn: t1, Yes: true}}) {
		t.Errorf("%v", first)
	}
	clear(first[:cap(first)])
	if was[0].Txn != t1 || was[1].Txn != t2 {
		t.Errorf("shared: %v", was)
	}
	if l := fresh.Notes(nil); len(l) != 0 {
		t.Errorf("of none: %v", l)
	}
}
