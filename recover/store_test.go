package recover_test

import (
	"fmt"
	"testing"

	"reredos/api"
)

// doubts of transactions, each with the Age 0.
func doubts(l ...api.Txn) []api.Doubt {
	var out []api.Doubt
	for _, x := range l {
		out = append(out, api.Doubt{Txn: x})
	}
	return out
}

// TestPrepared: P8.1: a Write, unless that is refused.
func TestPrepared(t *testing.T) {
	comesStore(t, "one", api.Store{Locks: []api.Lock{held(own(1), 2, 7, 3)}, Doubts: doubts(own(1))}, prepared(own(1), 2, 7, 3))
	comesStore(t, "the least", api.Store{Locks: []api.Lock{held(other(1), 0, 0, 0)}, Doubts: doubts(other(1))}, prepared(other(1), 0, 0, 0))
	most := prepared(third(api.MaxNumber), api.Keys-1, api.MaxValue, api.MaxNumber)
	comesStore(t, "the greatest", api.Store{Locks: []api.Lock{held(most.Txn, most.Key, most.Value, most.Ask)}, Doubts: doubts(most.Txn)}, most)
	comesStore(t, "in their order", api.Store{
		Locks:  []api.Lock{held(third(1), 5, 1, 1), held(own(9), 2, 2, 1), held(third(1), 0, 3, 2)},
		Doubts: doubts(third(1), own(9)),
	}, prepared(third(1), 5, 1, 1), prepared(own(9), 2, 2, 1), prepared(third(1), 0, 3, 2))
}

// TestPreparedAgain: P8.1, P4.4: in the place of the one that was there, unless that has a greater Ask.
func TestPreparedAgain(t *testing.T) {
	for _, x := range []struct{ ask, value int }{{6, 80}, {5, 80}, {4, 7}, {0, 7}} {
		want := api.Store{
			Locks:  []api.Lock{held(own(1), 2, x.value, max(x.ask, 5)), held(own(2), 3, 9, 1)},
			Doubts: doubts(own(1), own(2)),
		}
		comesStore(t, fmt.Sprint("ask ", x.ask), want, prepared(own(1), 2, 7, 5), prepared(own(2), 3, 9, 1), prepared(own(1), 2, 80, x.ask))
	}
}

// TestPreparedRefused: P8.1, P4.4: nothing comes of it where another transaction has a lock, or of who is over.
func TestPreparedRefused(t *testing.T) {
	first := api.Store{Locks: []api.Lock{held(own(1), 2, 7, 1)}, Doubts: doubts(own(1))}
	for _, x := range []api.Txn{own(2), other(1), third(1)} {
		comesStore(t, "busy", first, prepared(own(1), 2, 7, 1), prepared(x, 2, 8, 9))
		free := api.Store{Locks: []api.Lock{held(x, 2, 8, 9)}, Doubts: doubts(x), Over: []api.Txn{own(1)}}
		comesStore(t, "free again", free, prepared(own(1), 2, 7, 1), prepared(x, 2, 6, 5), applied(own(1), false), prepared(x, 2, 8, 9))
	}
	for _, yes := range []bool{true, false} {
		comesStore(t, "over", api.Store{Over: []api.Txn{own(1)}}, applied(own(1), yes), prepared(own(1), 2, 7, 1))
		got := rebuild(t, "over by force", forced(own(1), yes), prepared(own(1), 2, 7, 1)).Store
		if want := (api.Store{Over: []api.Txn{own(1)}}); fmt.Sprint(got) != fmt.Sprint(want) {
			t.Errorf("over by force: %v", got)
		}
	}
}

// TestAllKeys: P8.1: each key may be prepared; the keys that were written stand by their numbers.
func TestAllKeys(t *testing.T) {
	var l []api.Record
	var items []api.Item
	for key := range api.Keys {
		l = append(l, prepared(own(1+key%2), api.Keys-1-key, 10*(api.Keys-1-key), key))
		items = append(items, api.Item{Key: key, Value: 10 * key, Version: 1})
	}
	if got := rebuild(t, "all keys", l...).Store; len(got.Locks) != api.Keys || fmt.Sprint(got.Doubts) != fmt.Sprint(doubts(own(1), own(2))) {
		t.Errorf("all keys: %v", got)
	}
	comesStore(t, "all keys are written", api.Store{Items: items, Over: []api.Txn{own(2), own(1)}}, append(l, applied(own(2), true), applied(own(1), true))...)
}

// TestEnds: P8.1: by an Applied and by a Forced, with and without Yes.
func TestEnds(t *testing.T) {
	base := []api.Record{prepared(other(3), 6, 60, 1), applied(other(3), true), prepared(own(1), 6, 7, 1), prepared(third(1), 0, 4, 2), prepared(own(1), 3, 8, 3)}
	rest := api.Store{Items: []api.Item{{Key: 6, Value: 60, Version: 1}}, Locks: []api.Lock{held(third(1), 0, 4, 2)}, Doubts: doubts(third(1)), Over: []api.Txn{other(3), own(1)}}
	done := rest
	done.Items = []api.Item{{Key: 3, Value: 8, Version: 1}, {Key: 6, Value: 7, Version: 2}}
	for yes, want := range map[bool]api.Store{true: done, false: rest} {
		for _, r := range []api.Record{applied(own(1), yes), forced(own(1), yes)} {
			l := append(append([]api.Record(nil), base...), r)
			what := fmt.Sprint("kind ", r.Kind, ", ", yes)
			if got := rebuild(t, what, l...).Store; fmt.Sprint(got) != fmt.Sprint(want) {
				t.Errorf("%s: %v, want %v", what, got, want)
			}
			// A second end changes nothing, whatever it says.
			for _, again := range []api.Record{applied(own(1), true), applied(own(1), false), forced(own(1), true), forced(own(1), false)} {
				if got := rebuild(t, what, append(l, again)...).Store; fmt.Sprint(got) != fmt.Sprint(want) {
					t.Errorf("%s, ended twice: %v, want %v", what, got, want)
				}
			}
		}
	}
}

// TestOver: P8.1: who had nothing prepared is over, too, in the order of the ends; nothing else ends anybody.
func TestOver(t *testing.T) {
	got := rebuild(t, "over", applied(third(9), true), forced(own(2), false), applied(own(1), false), forced(third(9), true), applied(other(2), true), applied(own(2), true)).Store
	if want := (api.Store{Over: []api.Txn{third(9), own(2), own(1), other(2)}}); fmt.Sprint(got) != fmt.Sprint(want) {
		t.Errorf("over: %v", got)
	}
	comes(t, "not over", rebuilt{
		Store: api.Store{Locks: []api.Lock{held(own(1), 1, 2, 3)}, Doubts: doubts(own(1))},
		Desk:  api.Desk{Next: 2},
	}, prepared(own(1), 1, 2, 3), began(own(1)), committed(own(1), 1), ended(own(1)))
}

// TestLastVersion: P8.1, P4.4: a key whose version is MaxVersion is prepared no more. (So many records take no longer each than a few.)
func TestLastVersion(t *testing.T) {
	l := make([]api.Record, 0, 2*api.MaxVersion+3)
	for n := range api.MaxVersion - 1 {
		l = append(l, prepared(other(n+1), 5, n, 1), applied(other(n+1), true))
	}
	l = append(l, prepared(own(1), 5, 77, 1), applied(own(1), true)) // the last one that may be
	l = append(l, prepared(own(2), 5, 78, 1), prepared(own(3), 4, 79, 1), applied(own(2), true))
	got := rebuild(t, "no version is left", l...).Store
	if fmt.Sprint(got.Items, got.Locks, got.Doubts) != fmt.Sprint([]api.Item{{Key: 5, Value: 77, Version: api.MaxVersion}}, []api.Lock{held(own(3), 4, 79, 1)}, doubts(own(3))) {
		t.Errorf("no version is left: %v, %v, %v", got.Items, got.Locks, got.Doubts)
	}
	if len(got.Over) != api.MaxVersion+1 {
		t.Errorf("%d are over", len(got.Over))
	}
}
