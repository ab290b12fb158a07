package store_test

import (
	"math"
	"reflect"
	"testing"

	"reredos/api"
	"reredos/store"
)

var (
	one   = api.Txn{Site: 0, N: 1}
	two   = api.Txn{Site: 1, N: 2}
	three = api.Txn{Site: api.MaxSites - 1, N: api.MaxNumber}
	four  = api.Txn{Site: 2, N: 1}
	gone  = api.Txn{Site: 0, N: 2}
)

// some store: one reads 1 and writes 2, two reads 1, three writes 0 and 7; 4, 5 and 6 are free.
func some() api.Store {
	return api.Store{
		Items: []api.Item{{Key: 0, Value: 5, Version: 1}, {Key: 1, Value: api.MaxValue, Version: 3}, {Key: 5, Value: 0, Version: api.MaxVersion}},
		Locks: []api.Lock{
			{Txn: one, Key: 1},
			{Txn: three, Key: 7, Write: true, Value: api.MaxValue, Ask: api.MaxNumber},
			{Txn: two, Key: 1},
			{Txn: one, Key: 2, Write: true, Value: 22, Ask: 4},
			{Txn: three, Key: 0, Write: true},
		},
		Doubts: []api.Doubt{{Txn: two, Age: 2}, {Txn: three, Age: api.MaxAge}, {Txn: one}},
		Over:   []api.Txn{gone, {Site: api.MaxSites - 1, N: 1}},
	}
}

// crowded store: it has all the locks that there may be; all are of readers, of 3 and 4 alone.
func crowded() api.Store {
	var s api.Store
	for i := range api.MaxLocks / 2 {
		t := api.Txn{Site: i % api.MaxSites, N: 100 + i}
		s.Locks = append(s.Locks, api.Lock{Txn: t, Key: 3}, api.Lock{Txn: t, Key: 4})
		s.Doubts = append(s.Doubts, api.Doubt{Txn: t})
	}
	return s
}

// same: whether lists are nil or empty does not count.
func same(a, b api.Store) bool {
	return (len(a.Items) == 0 && len(b.Items) == 0 || reflect.DeepEqual(a.Items, b.Items)) &&
		(len(a.Locks) == 0 && len(b.Locks) == 0 || reflect.DeepEqual(a.Locks, b.Locks)) &&
		(len(a.Doubts) == 0 && len(b.Doubts) == 0 || reflect.DeepEqual(a.Doubts, b.Doubts)) &&
		(len(a.Over) == 0 && len(b.Over) == 0 || reflect.DeepEqual(a.Over, b.Over))
}

// badTxns: outside by one, and by far.
func badTxns() []api.Txn {
	return []api.Txn{
		{}, {Site: 0, N: 0}, {Site: -1, N: 1}, {Site: api.MaxSites, N: 1}, {Site: 0, N: -1}, {Site: 0, N: api.MaxNumber + 1},
		{Site: math.MinInt, N: 1}, {Site: math.MaxInt, N: 1}, {Site: 1, N: math.MinInt}, {Site: 1, N: math.MaxInt},
	}
}

// outside: numbers that are not from low to high.
func outside(low, high int) []int {
	return []int{low - 1, high + 1, math.MinInt, math.MaxInt}
}

// TestCheckTakes: P4.1: stores that may be, at the edges, too.
func TestCheckTakes(t *testing.T) {
	empty := api.Store{Items: []api.Item{}, Locks: []api.Lock{}, Doubts: []api.Doubt{}, Over: []api.Txn{}}
	full := api.Store{}
	for key := range api.Keys {
		full.Items = append(full.Items, api.Item{Key: key, Value: api.MaxValue, Version: api.MaxVersion})
	}
	busy := api.Store{
		Items:  []api.Item{{Key: 7, Version: api.MaxVersion}},
		Locks:  []api.Lock{{Txn: one, Key: 7, Write: true}},
		Doubts: []api.Doubt{{Txn: one}},
	}
	for i, s := range []api.Store{{}, empty, some(), crowded(), full, busy, {Over: []api.Txn{three, one, two}}} {
		if e := store.Check(s); e != api.OK {
			t.Errorf("store %d: %v: %v", i, s, e)
		}
	}
}

// spoilt: stores that may not be, each by one change.
func spoilt() []api.Store {
	var l []api.Store
	change := func(f func(s *api.Store)) {
		s := some()
		f(&s)
		l = append(l, s)
	}
	spoilItems(change)
	spoilLocks(change)
	spoilDoubts(change)
	for _, x := range badTxns() {
		change(func(s *api.Store) { s.Over[1] = x })
		change(func(s *api.Store) { s.Over = append(s.Over, x) })
	}
	change(func(s *api.Store) { s.Over[1] = gone })
	change(func(s *api.Store) { s.Over = append(s.Over, four, gone) })
	return l
}

func spoilItems(change func(func(s *api.Store))) {
	for _, n := range outside(0, api.Keys-1) {
		change(func(s *api.Store) { s.Items[0].Key = n })
		change(func(s *api.Store) { s.Items[2].Key = n })
	}
	for _, n := range outside(0, api.MaxValue) {
		change(func(s *api.Store) { s.Items[1].Value = n })
	}
	for _, n := range outside(1, api.MaxVersion) {
		change(func(s *api.Store) { s.Items[2].Version = n })
	}
	change(func(s *api.Store) { s.Items[2].Key = 1 })
	change(func(s *api.Store) { s.Items[1].Key = 6 })
	change(func(s *api.Store) { s.Items[0], s.Items[1] = s.Items[1], s.Items[0] })
}

func spoilLocks(change func(func(s *api.Store))) {
	for _, x := range badTxns() {
		change(func(s *api.Store) { s.Locks[0].Txn = x })
		// In doubt, too, so that only the transaction itself is wrong.
		change(func(s *api.Store) {
			s.Locks = append(s.Locks, api.Lock{Txn: x, Key: 6, Write: true})
			s.Doubts = append(s.Doubts, api.Doubt{Txn: x})
		})
	}
	for _, n := range outside(0, api.Keys-1) {
		change(func(s *api.Store) { s.Locks[1].Key = n })
	}
	for _, n := range outside(0, api.MaxValue) {
		change(func(s *api.Store) { s.Locks[1].Value = n })
	}
	for _, n := range outside(0, api.MaxNumber) {
		change(func(s *api.Store) { s.Locks[1].Ask = n })
	}
	change(func(s *api.Store) { s.Locks[0].Value = 1 })
	change(func(s *api.Store) { s.Locks[2].Ask = 1 })
	change(func(s *api.Store) { s.Locks[2].Value = -1 })
	change(func(s *api.Store) { s.Locks[3].Write = false })
	change(func(s *api.Store) { s.Locks = append(s.Locks, api.Lock{Txn: four, Key: 6}) })
	change(func(s *api.Store) { s.Locks = append(s.Locks, api.Lock{Txn: four, Key: 6, Write: true}) })
	change(func(s *api.Store) { s.Locks = append(s.Locks, api.Lock{Txn: one, Key: 1}) })
	change(func(s *api.Store) { s.Locks[2].Txn = one })
	change(func(s *api.Store) { s.Locks[0].Write = true })
	change(func(s *api.Store) { s.Locks[2].Write = true })
	change(func(s *api.Store) { s.Locks[0].Write, s.Locks[2].Write = true, true })
	change(func(s *api.Store) { s.Locks[1].Key = 2 })
	change(func(s *api.Store) { s.Locks[4].Key = 7 })
	change(func(s *api.Store) {
		*s = crowded()
		s.Locks = append(s.Locks, api.Lock{Txn: s.Locks[0].Txn, Key: 5})
	})
}

func spoilDoubts(change func(func(s *api.Store))) {
	for _, x := range badTxns() {
		change(func(s *api.Store) { s.Doubts = append(s.Doubts, api.Doubt{Txn: x}) })
	}
	for _, n := range outside(0, api.MaxAge) {
		change(func(s *api.Store) { s.Doubts[0].Age = n })
	}
	change(func(s *api.Store) { s.Doubts = nil })
	change(func(s *api.Store) { s.Doubts = s.Doubts[1:] })
	change(func(s *api.Store) { s.Doubts = s.Doubts[:1] })
	change(func(s *api.Store) { s.Doubts = append(s.Doubts, api.Doubt{Txn: one}) })
	change(func(s *api.Store) { s.Doubts = append(s.Doubts, api.Doubt{Txn: two, Age: 2}) })
	change(func(s *api.Store) { s.Doubts = append(s.Doubts, api.Doubt{Txn: four}) })
	change(func(s *api.Store) { s.Over = append(s.Over, two) })
	change(func(s *api.Store) { s.Over[0] = three })
	// It has a Write alone, and no doubt: who has a hand on something is in doubt, whatever hand it is.
	change(func(s *api.Store) { s.Doubts = []api.Doubt{s.Doubts[0], s.Doubts[2]} })
}

// TestCheckRefuses: P4.1: whatever is wrong, the answer is ErrState.
func TestCheckRefuses(t *testing.T) {
	for i, s := range spoilt() {
		if e := store.Check(s); e != api.ErrState {
			t.Errorf("store %d: %v: %v", i, s, e)
		}
	}
}

// TestCheckEnds: a store with very many transactions that are over is looked through, too.
func TestCheckEnds(t *testing.T) {
	s := some()
	for n := 3; n <= 300_000; n++ {
		s.Over = append(s.Over, api.Txn{N: n})
	}
	if e := store.Check(s); e != api.OK {
		t.Errorf("each once: %v", e)
	}
	s.Over = append(s.Over, api.Txn{N: 150_000})
	if e := store.Check(s); e != api.ErrState {
		t.Errorf("one twice: %v", e)
	}
	many := some()
	for range 300_000 {
		many.Doubts = append(many.Doubts, api.Doubt{Txn: one})
		many.Items = append(many.Items, api.Item{Key: 7, Version: 1})
	}
	if e := store.Check(many); e != api.ErrState {
		t.Errorf("many doubts: %v", e)
	}
}
