package store_test

import (
	"math"
	"slices"
	"testing"

	"reredos/api"
	"reredos/store"
)

// without: some store in which a transaction has no hand on anything.
func without(x api.Txn) api.Store {
	s := some()
	s.Locks = slices.DeleteFunc(s.Locks, func(k api.Lock) bool { return k.Txn == x })
	s.Doubts = slices.DeleteFunc(s.Doubts, func(d api.Doubt) bool { return d.Txn == x })
	return s
}

// TestEnd: P4.8: yes or no, and who has nothing there.
func TestEnd(t *testing.T) {
	items := some().Items
	for _, x := range []struct {
		t       api.Txn
		yes     bool
		items   []api.Item
		another bool // does one more stand in Over?
	}{
		{one, true, []api.Item{items[0], items[1], {Key: 2, Value: 22, Version: 1}, items[2]}, true},
		{two, true, items, true},
		{three, true, []api.Item{{Key: 0, Value: 0, Version: 2}, items[1], items[2], {Key: 7, Value: api.MaxValue, Version: 1}}, true},
		{four, true, items, true},
		{gone, true, items, false},
		{one, false, items, true},
		{two, false, items, true},
		{three, false, items, true},
		{four, false, items, true},
		{gone, false, items, false},
	} {
		want := without(x.t)
		want.Items = x.items
		if x.another {
			want.Over = append(want.Over, x.t)
		}
		next, e := store.End(some(), x.t, x.yes)
		if e != api.OK || !same(next, want) {
			t.Errorf("%v, %v: %v, %v; want %v", x.t, x.yes, next, e, want)
		}
	}
}

// TestEndManyKeys: P4.8: whatever the order of the locks, items stand by their keys.
func TestEndManyKeys(t *testing.T) {
	for _, keys := range [][]int{{0, 1, 2, 3, 4, 5, 6, 7}, {7, 6, 5, 4, 3, 2, 1, 0}, {3, 0, 7, 5, 1, 6, 2, 4}} {
		s := api.Store{Items: []api.Item{{Key: 3, Value: 9, Version: 4}}, Doubts: []api.Doubt{{Txn: two}}}
		for _, key := range keys {
			s.Locks = append(s.Locks, api.Lock{Txn: two, Key: key, Write: true, Value: 10 * key})
		}
		want := api.Store{Over: []api.Txn{two}}
		for key := range api.Keys {
			want.Items = append(want.Items, api.Item{Key: key, Value: 10 * key, Version: 1})
		}
		want.Items[3].Version = 5
		if next, e := store.End(s, two, true); e != api.OK || !same(next, want) {
			t.Errorf("%v: %v, %v", keys, next, e)
		}
	}
}

// TestEndLastVersion: P4.8 names no bound: also of the last version the next one is one greater.
func TestEndLastVersion(t *testing.T) {
	s := api.Store{
		Items:  []api.Item{{Key: 4, Value: 1, Version: api.MaxVersion - 1}, {Key: 5, Value: 1, Version: api.MaxVersion}},
		Locks:  []api.Lock{{Txn: one, Key: 5, Write: true, Value: 2}, {Txn: one, Key: 4, Write: true, Value: 3}},
		Doubts: []api.Doubt{{Txn: one}},
	}
	want := []api.Item{{Key: 4, Value: 3, Version: api.MaxVersion}, {Key: 5, Value: 2, Version: api.MaxVersion + 1}}
	if next, e := store.End(s, one, true); e != api.OK || !slices.Equal(next.Items, want) {
		t.Errorf("%v, %v", next, e)
	}
}

// TestEndTwice: P4.8: who is over stays so, once, and nothing is put again.
func TestEndTwice(t *testing.T) {
	first, e := store.End(some(), one, true)
	if e != api.OK {
		t.Fatal(e)
	}
	for _, yes := range []bool{true, false} {
		if again, e := store.End(first, one, yes); e != api.OK || !same(again, first) {
			t.Errorf("%v: %v, %v", yes, again, e)
		}
	}
}

// TestAge: P4.9.
func TestAge(t *testing.T) {
	for _, x := range []struct {
		patience int
		ages     []int // of two, three and one
		told     []api.Txn
	}{
		{1, []int{0, 0, 0}, []api.Txn{two, three, one}},
		{2, []int{0, 0, 1}, []api.Txn{two, three}},
		{3, []int{0, 0, 1}, []api.Txn{two, three}},
		{4, []int{3, 0, 1}, []api.Txn{three}},
		{api.MaxAge, []int{3, 0, 1}, []api.Txn{three}},
	} {
		want := some()
		for i, n := range x.ages {
			want.Doubts[i].Age = n
		}
		next, told, e := store.Age(some(), x.patience)
		if e != api.OK || !slices.Equal(told, x.told) || !same(next, want) {
			t.Errorf("%d: %v, %v, %v; want %v, %v", x.patience, next, told, e, want, x.told)
		}
	}
	if next, told, e := store.Age(api.Store{Over: []api.Txn{one}}, 1); e != api.OK || len(told) != 0 || !same(next, api.Store{Over: []api.Txn{one}}) {
		t.Errorf("no doubts: %v, %v, %v", next, told, e)
	}
}

// TestAgeGreatest: P4.9: an Age that is patience then, exactly, at its bound.
func TestAgeGreatest(t *testing.T) {
	for age, told := range map[int]bool{api.MaxAge: true, api.MaxAge - 1: true, api.MaxAge - 2: false} {
		s := api.Store{Locks: []api.Lock{{Txn: one}}, Doubts: []api.Doubt{{Txn: one, Age: age}}}
		next, l, e := store.Age(s, api.MaxAge)
		if e != api.OK || (len(l) == 1) != told || store.Check(next) != api.OK {
			t.Errorf("%d: %v, %v, %v", age, next, l, e)
		}
		if !told && next.Doubts[0].Age != age+1 {
			t.Errorf("%d: %v", age, next)
		}
	}
}

// TestAgeRange: P4.9.
func TestAgeRange(t *testing.T) {
	for _, n := range []int{0, -1, api.MaxAge + 1, math.MinInt, math.MaxInt} {
		for _, s := range []api.Store{{}, some()} {
			if next, told, e := store.Age(s, n); e != api.ErrRange || len(told) != 0 || !same(next, api.Store{}) {
				t.Errorf("%d: %v, %v, %v", n, next, told, e)
			}
		}
	}
}

// TestForget: P4.10: Writes stay, with their doubts in their order.
func TestForget(t *testing.T) {
	want := some()
	want.Locks = []api.Lock{want.Locks[1], want.Locks[3], want.Locks[4]}
	want.Doubts = []api.Doubt{{Txn: three}, {Txn: one}}
	if next, e := store.Forget(some()); e != api.OK || !same(next, want) {
		t.Errorf("%v, %v; want %v", next, e, want)
	}
	if next, e := store.Forget(crowded()); e != api.OK || !same(next, api.Store{}) {
		t.Errorf("readers alone: %v, %v", next, e)
	}
	over := api.Store{Items: some().Items, Over: some().Over}
	if next, e := store.Forget(over); e != api.OK || !same(next, over) {
		t.Errorf("nobody: %v, %v; want %v", next, e, over)
	}
}
