package store_test

import (
	"reflect"
	"slices"
	"testing"

	"reredos/api"
	"reredos/store"
)

// roomy: a store whose lists have spare room, with something in it.
func roomy(s api.Store) api.Store {
	return api.Store{
		Items:  append(slices.Clone(s.Items), slices.Repeat([]api.Item{{Key: 9}}, 9)...)[:len(s.Items)],
		Locks:  append(slices.Clone(s.Locks), slices.Repeat([]api.Lock{{Key: 9}}, 9)...)[:len(s.Locks)],
		Doubts: append(slices.Clone(s.Doubts), slices.Repeat([]api.Doubt{{Age: 9}}, 9)...)[:len(s.Doubts)],
		Over:   append(slices.Clone(s.Over), slices.Repeat([]api.Txn{{N: 9}}, 9)...)[:len(s.Over)],
	}
}

// spread: the lists of a store with their spare room.
func spread(s api.Store) api.Store {
	return api.Store{Items: s.Items[:cap(s.Items)], Locks: s.Locks[:cap(s.Locks)], Doubts: s.Doubts[:cap(s.Doubts)], Over: s.Over[:cap(s.Over)]}
}

// copied: in other memory.
func copied(s api.Store) api.Store {
	return api.Store{Items: slices.Clone(s.Items), Locks: slices.Clone(s.Locks), Doubts: slices.Clone(s.Doubts), Over: slices.Clone(s.Over)}
}

// scribble over the lists of a store, and over their spare room.
func scribble(s api.Store) {
	s = spread(s)
	for i := range s.Items {
		s.Items[i] = api.Item{Key: -7, Value: -7, Version: -7}
	}
	for i := range s.Locks {
		s.Locks[i] = api.Lock{Key: -7, Value: -7}
	}
	for i := range s.Doubts {
		s.Doubts[i].Age = -7
	}
	for i := range s.Over {
		s.Over[i].N = -7
	}
}

// nexts: all calls that answer a store, so that each of them leaves lists as they were or changes them.
func nexts() map[string]func(s api.Store) api.Store {
	read := func(t api.Txn, key int) func(s api.Store) api.Store {
		return func(s api.Store) api.Store { x, _, _, _ := store.Read(s, t, key); return x }
	}
	write := func(t api.Txn, key int) func(s api.Store) api.Store {
		return func(s api.Store) api.Store { x, _ := store.Write(s, t, key, 1, 9); return x }
	}
	end := func(t api.Txn, yes bool) func(s api.Store) api.Store {
		return func(s api.Store) api.Store { x, _ := store.End(s, t, yes); return x }
	}
	age := func(patience int) func(s api.Store) api.Store {
		return func(s api.Store) api.Store { x, _, _ := store.Age(s, patience); return x }
	}
	return map[string]func(s api.Store) api.Store{
		"Read (new)": read(four, 6), "Read (again)": read(one, 1), "Read (its own)": read(one, 2),
		"Write (new)": write(four, 6), "Write (again)": write(one, 2),
		"End (yes)": end(three, true), "End (no)": end(three, false), "End (over)": end(gone, true), "End (none)": end(four, true),
		"Age": age(1), "Age (greatest)": age(api.MaxAge),
		"Forget": func(s api.Store) api.Store { x, _ := store.Forget(s); return x },
	}
}

// TestSharesNothing: what is handed in stays, spare room too; no answer shares memory with it, or with another answer.
func TestSharesNothing(t *testing.T) {
	for name, call := range nexts() {
		for _, given := range []api.Store{some(), {}, {Items: some().Items, Over: some().Over}} {
			s := roomy(given)
			was := copied(spread(s))
			first, second := call(s), call(s)
			want := copied(second)
			if !reflect.DeepEqual(copied(spread(s)), was) {
				t.Errorf("%s: what was handed in was changed: %v", name, s)
			}
			scribble(first)
			if !reflect.DeepEqual(copied(spread(s)), was) {
				t.Errorf("%s: the answer shares memory with what was handed in: %v", name, s)
			}
			if !same(second, want) {
				t.Errorf("%s: two answers share memory: %v", name, second)
			}
			scribble(s)
			if !same(second, want) {
				t.Errorf("%s: what was handed in was kept: %v", name, second)
			}
		}
	}
}

// TestAnswersNoStore: calls that answer no store change nothing, either.
func TestAnswersNoStore(t *testing.T) {
	s := roomy(some())
	was := copied(spread(s))
	store.Check(s)
	for key := range api.Keys {
		store.Peek(s, key)
		store.Still(s, one, key, 3)
	}
	store.Writes(s, three)
	if !reflect.DeepEqual(copied(spread(s)), was) {
		t.Errorf("%v", s)
	}
}

// TestToldIsItsOwn: who is told by Age stands in no list of the store.
func TestToldIsItsOwn(t *testing.T) {
	next, told, e := store.Age(some(), 1)
	want := copied(next)
	told = told[:cap(told)]
	for i := range told {
		told[i] = api.Txn{Site: -7, N: -7}
	}
	if e != api.OK || !same(next, want) {
		t.Errorf("%v, %v", next, e)
	}
}

// die: numbers that look drawn, the same each time.
type die uint64

func (d *die) n(most int) int {
	*d = *d*6364136223846793005 + 1442695040888963407
	return int(uint64(*d>>33) % uint64(most))
}

// step: one call that looks drawn.
func (d *die) step(s api.Store) (next api.Store, e api.Errno) {
	t, key := api.Txn{Site: d.n(4), N: 1 + d.n(9)}, d.n(api.Keys)
	switch d.n(8) {
	case 0, 1, 2:
		next, _, _, e = store.Read(s, t, key)
	case 3, 4:
		next, e = store.Write(s, t, key, d.n(50), d.n(3))
	case 5:
		next, _, e = store.Age(s, 1+d.n(3))
	case 6:
		if d.n(5) == 0 {
			next, e = store.Forget(s)
		} else {
			next = s
		}
	default:
		next, e = store.End(s, t, d.n(2) == 0)
	}
	return next, e
}

// TestStaysAStore: what the calls make of a store that may be is one that may be; versions do not go back, and who is over stays so.
func TestStaysAStore(t *testing.T) {
	d := die(11)
	for range 60 {
		var s api.Store
		for range 150 {
			next, e := d.step(s)
			if e != api.OK {
				continue
			}
			if e := store.Check(next); e != api.OK {
				t.Fatalf("%v becomes %v", s, next)
			}
			for _, x := range s.Items {
				i := slices.IndexFunc(next.Items, func(y api.Item) bool { return y.Key == x.Key })
				if i < 0 || next.Items[i].Version < x.Version {
					t.Fatalf("%v becomes %v", s.Items, next.Items)
				}
			}
			if len(next.Over) < len(s.Over) || !slices.Equal(next.Over[:len(s.Over)], s.Over) {
				t.Fatalf("%v becomes %v", s.Over, next.Over)
			}
			s = next
		}
	}
}
