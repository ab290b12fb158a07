package store_test

import (
	"math"
	"slices"
	"testing"

	"reredos/api"
	"reredos/store"
)

// calls: each call, with a transaction and a key where it has them; whether what it answers beside the error is all zero.
func calls() map[string]func(s api.Store, t api.Txn, key int) (bool, api.Errno) {
	return map[string]func(s api.Store, t api.Txn, key int) (bool, api.Errno){
		"Read": func(s api.Store, t api.Txn, key int) (bool, api.Errno) {
			x, v, n, e := store.Read(s, t, key)
			return same(x, api.Store{}) && v == 0 && n == 0, e
		},
		"Write": func(s api.Store, t api.Txn, key int) (bool, api.Errno) {
			x, e := store.Write(s, t, key, 1, 2)
			return same(x, api.Store{}), e
		},
		"Write (wrong)": func(s api.Store, t api.Txn, key int) (bool, api.Errno) {
			x, e := store.Write(s, t, key, -1, -1)
			return same(x, api.Store{}), e
		},
		"Peek": func(s api.Store, t api.Txn, key int) (bool, api.Errno) {
			v, n, e := store.Peek(s, key)
			return v == 0 && n == 0, e
		},
		"Still": func(s api.Store, t api.Txn, key int) (bool, api.Errno) {
			ok, e := store.Still(s, t, key, 3)
			return !ok, e
		},
		"Writes": func(s api.Store, t api.Txn, key int) (bool, api.Errno) {
			n, e := store.Writes(s, t)
			return n == 0, e
		},
		"End": func(s api.Store, t api.Txn, key int) (bool, api.Errno) {
			x, e := store.End(s, t, true)
			return same(x, api.Store{}), e
		},
		"Age": func(s api.Store, t api.Txn, key int) (bool, api.Errno) {
			x, l, e := store.Age(s, 1)
			return same(x, api.Store{}) && len(l) == 0, e
		},
		"Age (wrong)": func(s api.Store, t api.Txn, key int) (bool, api.Errno) {
			x, l, e := store.Age(s, 0)
			return same(x, api.Store{}) && len(l) == 0, e
		},
		"Forget": func(s api.Store, t api.Txn, key int) (bool, api.Errno) {
			x, e := store.Forget(s)
			return same(x, api.Store{}), e
		},
	}
}

// TestRefuseState: P4.2: a store that may not be is refused ahead of all else.
func TestRefuseState(t *testing.T) {
	for name, call := range calls() {
		for i, s := range spoilt() {
			for _, x := range []api.Txn{one, gone, {}} {
				for _, key := range []int{1, 7, -1} {
					if zero, e := call(s, x, key); e != api.ErrState || !zero {
						t.Errorf("%s of store %d, %v, %d: %v, zero: %v", name, i, x, key, e, zero)
					}
				}
			}
		}
	}
}

// TestRefuseRange: P4.2: what is no transaction or no key, though it would be refused otherwise, too.
func TestRefuseRange(t *testing.T) {
	stores := []api.Store{{}, some(), crowded(), {Over: []api.Txn{one}}}
	refused := func(name string, s api.Store, x api.Txn, key int) {
		t.Helper()
		if zero, e := calls()[name](s, x, key); e != api.ErrRange || !zero {
			t.Errorf("%s, %v, %d: %v, zero: %v", name, x, key, e, zero)
		}
	}
	for _, s := range stores {
		for _, name := range []string{"Read", "Write", "Write (wrong)", "Still", "Writes", "End"} {
			for _, x := range badTxns() {
				refused(name, s, x, 1)
			}
		}
		for _, name := range []string{"Read", "Write", "Write (wrong)", "Still", "Peek"} {
			for _, key := range outside(0, api.Keys-1) {
				refused(name, s, one, key)
			}
		}
	}
}

// roomForOne: a store that has one lock fewer than there may be.
func roomForOne() api.Store {
	s := crowded()
	s.Locks = s.Locks[:api.MaxLocks-1]
	return s
}

// TestRead: P4.3.
func TestRead(t *testing.T) {
	for _, x := range []struct {
		what           string
		s              api.Store
		t              api.Txn
		key            int
		value, version int
		locked, doubt  bool // is there one more?
	}{
		{"never written", api.Store{}, one, 0, 0, 0, true, true},
		{"never written, and others are in doubt", some(), four, 6, 0, 0, true, true},
		{"written", some(), four, 5, 0, api.MaxVersion, true, true},
		{"others read it", some(), four, 1, api.MaxValue, 3, true, true},
		{"in doubt already", some(), two, 3, 0, 0, true, false},
		{"in doubt by writing", some(), three, 1, api.MaxValue, 3, true, false},
		{"read already", some(), two, 1, api.MaxValue, 3, false, false},
		{"read already, ahead of all", some(), one, 1, api.MaxValue, 3, false, false},
		{"the last lock", roomForOne(), one, 3, 0, 0, true, true},
		{"written by itself, never before", some(), one, 2, 22, 0, false, false},
		{"written by itself, ahead of all", api.Store{Locks: []api.Lock{{Txn: one, Key: 2, Write: true, Value: 7}}, Doubts: []api.Doubt{{Txn: one, Age: 3}}}, one, 2, 7, 0, false, false},
		{"written by itself, with 0", some(), three, 0, 0, 1, false, false},
		{"read already, and all locks are there", crowded(), crowded().Doubts[0].Txn, 4, 0, 0, false, false},
		{"over is another one", some(), api.Txn{Site: 1, N: 1}, 6, 0, 0, true, true},
	} {
		want := x.s
		if x.locked {
			want.Locks = append(slices.Clone(want.Locks), api.Lock{Txn: x.t, Key: x.key})
		}
		if x.doubt {
			want.Doubts = append(slices.Clone(want.Doubts), api.Doubt{Txn: x.t})
		}
		next, value, version, e := store.Read(x.s, x.t, x.key)
		if e != api.OK || value != x.value || version != x.version || !same(next, want) {
			t.Errorf("%s: %v, %d, %d, %v; want %v, %d, %d", x.what, next, value, version, e, want, x.value, x.version)
		}
	}
}

// TestReadRefuses: P4.3: the error that is named first.
func TestReadRefuses(t *testing.T) {
	over := crowded()
	over.Over = []api.Txn{one}
	busy := crowded()
	busy.Locks[23] = api.Lock{Txn: busy.Locks[23].Txn, Key: 5, Write: true}
	both := busy
	both.Over = []api.Txn{one}
	for _, x := range []struct {
		what string
		s    api.Store
		t    api.Txn
		key  int
		want api.Errno
	}{
		{"over", some(), gone, 6, api.ErrOver},
		{"over, and busy", some(), gone, 2, api.ErrOver},
		{"over, and full", over, one, 3, api.ErrOver},
		{"over, busy and full", both, one, 5, api.ErrOver},
		{"busy", some(), two, 2, api.ErrBusy},
		{"busy, though nothing is there", some(), four, 7, api.ErrBusy},
		{"busy, and it has another key", some(), one, 0, api.ErrBusy},
		{"busy, and full", busy, one, 5, api.ErrBusy},
		{"full", crowded(), one, 3, api.ErrFull},
		{"full, and it has another key", crowded(), crowded().Doubts[0].Txn, 5, api.ErrFull},
	} {
		next, value, version, e := store.Read(x.s, x.t, x.key)
		if e != x.want || !same(next, api.Store{}) || value != 0 || version != 0 {
			t.Errorf("%s: %v, %d, %d, %v; want %v", x.what, next, value, version, e, x.want)
		}
	}
}

// TestWrite: P4.4: in the place of what it has there, else behind all.
func TestWrite(t *testing.T) {
	alone := api.Store{Locks: []api.Lock{{Txn: one, Key: 1}, {Txn: two, Key: 3}}, Doubts: []api.Doubt{{Txn: two, Age: 5}, {Txn: one, Age: 7}}}
	full := crowded()
	full.Locks[23].Key = 5
	last := full.Locks[23].Txn
	first := crowded()
	first.Locks[0].Key = 5
	for _, x := range []struct {
		what       string
		s          api.Store
		t          api.Txn
		key        int
		value, ask int
		place      int
		doubt      bool
	}{
		{"new", api.Store{}, one, 2, 7, 3, 0, true},
		{"new, greatest", api.Store{}, three, 7, api.MaxValue, api.MaxNumber, 0, true},
		{"new, least", api.Store{}, one, 0, 0, 0, 0, true},
		{"new, and others are in doubt", some(), four, 6, 1, 1, 5, true},
		{"in doubt already", some(), two, 4, 1, 0, 5, false},
		{"what it has read alone", alone, one, 1, 9, 0, 0, false},
		{"again, the same Ask", some(), one, 2, 23, 4, 3, false},
		{"again, a greater Ask", some(), one, 2, 0, 5, 3, false},
		{"again, the greatest Ask", some(), three, 7, 3, api.MaxNumber, 1, false},
		{"all locks are there, and it has the last one", full, last, 5, 6, 1, 23, false},
		{"all locks are there, and it has the first one", first, first.Locks[0].Txn, 5, 6, 1, 0, false},
		{"the last lock", roomForOne(), one, 5, 6, 1, 23, true},
		{"a version that may be one greater", api.Store{Items: []api.Item{{Key: 3, Version: api.MaxVersion - 1}}}, one, 3, 1, 1, 0, true},
	} {
		want := x.s
		lock := api.Lock{Txn: x.t, Key: x.key, Write: true, Value: x.value, Ask: x.ask}
		want.Locks = slices.Clone(want.Locks)
		if x.place == len(want.Locks) {
			want.Locks = append(want.Locks, lock)
		} else {
			want.Locks[x.place] = lock
		}
		if x.doubt {
			want.Doubts = append(slices.Clone(want.Doubts), api.Doubt{Txn: x.t})
		}
		next, e := store.Write(x.s, x.t, x.key, x.value, x.ask)
		if e != api.OK || !same(next, want) {
			t.Errorf("%s: %v, %v; want %v", x.what, next, e, want)
		}
	}
}

// TestWriteRange: P4.4: a value or an ask outside its bounds, ahead of all that is refused behind it.
func TestWriteRange(t *testing.T) {
	refused := func(s api.Store, x api.Txn, key, value, ask int) {
		t.Helper()
		if next, e := store.Write(s, x, key, value, ask); e != api.ErrRange || !same(next, api.Store{}) {
			t.Errorf("%v, %d, %d, %d: %v, %v", x, key, value, ask, next, e)
		}
	}
	for _, x := range []api.Txn{one, gone, four} {
		for _, key := range []int{2, 5, 6} {
			for _, n := range outside(0, api.MaxValue) {
				refused(some(), x, key, n, 1)
				refused(crowded(), x, key, n, 1)
			}
			for _, n := range outside(0, api.MaxNumber) {
				refused(some(), x, key, 1, n)
				refused(crowded(), x, key, 1, n)
			}
		}
	}
}

// TestWriteRefuses: P4.4: the error that is named first.
func TestWriteRefuses(t *testing.T) {
	over := crowded()
	over.Over = []api.Txn{one}
	spent := crowded()
	spent.Items = []api.Item{{Key: 3, Version: api.MaxVersion}, {Key: 5, Version: api.MaxVersion}}
	mine := api.Store{
		Items:  []api.Item{{Key: 5, Version: api.MaxVersion}},
		Locks:  []api.Lock{{Txn: one, Key: 5, Write: true, Ask: 2}, {Txn: two, Key: 4}},
		Doubts: []api.Doubt{{Txn: one}, {Txn: two}},
	}
	for _, x := range []struct {
		what string
		s    api.Store
		t    api.Txn
		key  int
		ask  int
		want api.Errno
	}{
		{"over", some(), gone, 6, 9, api.ErrOver},
		{"over, and busy", some(), gone, 1, 9, api.ErrOver},
		{"over, and full", over, one, 5, 9, api.ErrOver},
		{"over, and the version is the last one", some(), gone, 5, 9, api.ErrOver},
		{"a lesser Ask", some(), one, 2, 3, api.ErrOver},
		{"the least Ask", some(), three, 7, 0, api.ErrOver},
		{"a lesser Ask, and the version is the last one", mine, one, 5, 1, api.ErrOver},
		{"another one writes", some(), four, 7, 1, api.ErrBusy},
		{"another one writes, and it has other keys", some(), one, 0, 9, api.ErrBusy},
		{"another one writes, and the version is the last one", mine, two, 5, 9, api.ErrBusy},
		{"another one reads", some(), four, 1, 1, api.ErrBusy},
		{"another one reads, and it does, too", some(), one, 1, 9, api.ErrBusy},
		{"busy, and full", crowded(), one, 3, 9, api.ErrBusy},
		{"busy, full, and the version is the last one", spent, one, 3, 9, api.ErrBusy},
		{"full", crowded(), one, 5, 9, api.ErrFull},
		{"full, and it has other keys", crowded(), crowded().Doubts[0].Txn, 5, 9, api.ErrFull},
		{"the version is the last one", some(), four, 5, 1, api.ErrFull},
		{"the version is the last one, and it has a lock there", mine, one, 5, 2, api.ErrFull},
		{"full, and the version is the last one", spent, one, 5, 1, api.ErrFull},
	} {
		if next, e := store.Write(x.s, x.t, x.key, 1, x.ask); e != x.want || !same(next, api.Store{}) {
			t.Errorf("%s: %v, %v; want %v", x.what, next, e, x.want)
		}
	}
}

// TestPeek: P4.5: readers do not hinder, writers do.
func TestPeek(t *testing.T) {
	for _, x := range []struct {
		s              api.Store
		key            int
		value, version int
		want           api.Errno
	}{
		{api.Store{}, 0, 0, 0, api.OK},
		{api.Store{}, 7, 0, 0, api.OK},
		{some(), 0, 0, 0, api.ErrBusy},
		{some(), 1, api.MaxValue, 3, api.OK},
		{some(), 2, 0, 0, api.ErrBusy},
		{some(), 3, 0, 0, api.OK},
		{some(), 5, 0, api.MaxVersion, api.OK},
		{some(), 7, 0, 0, api.ErrBusy},
		{crowded(), 3, 0, 0, api.OK},
	} {
		if value, version, e := store.Peek(x.s, x.key); e != x.want || value != x.value || version != x.version {
			t.Errorf("%v, %d: %d, %d, %v; want %d, %d, %v", x.s, x.key, value, version, e, x.value, x.version, x.want)
		}
	}
}

// TestStill: P4.6: a lock of any kind, and that version.
func TestStill(t *testing.T) {
	for _, x := range []struct {
		t       api.Txn
		key     int
		version int
		want    bool
	}{
		{one, 1, 3, true}, {two, 1, 3, true}, {three, 1, 3, false}, {four, 1, 3, false}, {gone, 1, 3, false},
		{one, 1, 2, false}, {one, 1, 4, false}, {one, 1, 0, false}, {one, 1, -3, false}, {one, 1, math.MaxInt, false}, {one, 1, math.MinInt, false},
		{one, 2, 0, true}, {one, 2, 1, false}, {three, 0, 1, true}, {three, 0, 0, false}, {three, 7, 0, true},
		{one, 5, api.MaxVersion, false}, {two, 6, 0, false}, {two, 2, 0, false},
	} {
		if ok, e := store.Still(some(), x.t, x.key, x.version); e != api.OK || ok != x.want {
			t.Errorf("%v, %d, %d: %v, %v", x.t, x.key, x.version, ok, e)
		}
	}
}

// TestWrites: P4.7.
func TestWrites(t *testing.T) {
	for x, want := range map[api.Txn]int{one: 1, two: 0, three: 2, four: 0, gone: 0} {
		if n, e := store.Writes(some(), x); e != api.OK || n != want {
			t.Errorf("%v: %d, %v; want %d", x, n, e, want)
		}
	}
}
