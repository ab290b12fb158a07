package store

import (
	"slices"

	"reredos/api"
	"reredos/bounds"
)

// Check a store.
func Check(s api.Store) api.Errno {
	// Over stands ahead of the doubts, which look through it: one that may be is not endless.
	if !itemsMayBe(s.Items) || !locksMayBe(s.Locks) || !overMayBe(s.Over) || !doubtsMayBe(s) {
		return api.ErrState
	}
	return api.OK
}

func itemsMayBe(items []api.Item) bool {
	low := 0
	for _, x := range items {
		if !bounds.Within(x.Key, low, api.Keys-1) || !bounds.Value(x.Value) || !bounds.Within(x.Version, 1, api.MaxVersion) {
			return false
		}
		low = x.Key + 1
	}
	return true
}

// locksMayBe: by themselves; whether their transactions are in doubt is asked with the doubts.
func locksMayBe(locks []api.Lock) bool {
	if len(locks) > api.MaxLocks {
		return false
	}
	for i, k := range locks {
		if !lockMayBe(k) || slices.ContainsFunc(locks[:i], against(k)) {
			return false
		}
	}
	return true
}

func lockMayBe(k api.Lock) bool {
	if !isTxn(k.Txn) || !bounds.Key(k.Key) || !bounds.Value(k.Value) || !isAsk(k.Ask) {
		return false
	}
	return k.Write || k.Value == 0 && k.Ask == 0
}

// overMayBe asks a map, for Over is the one list that has no limit: to look through it for each of its transactions would take too long.
func overMayBe(over []api.Txn) bool {
	places := make(map[api.Txn]int)
	for i, t := range over {
		if _, twice := places[t]; twice || !isTxn(t) {
			return false
		}
		places[t] = i
	}
	return true
}

// doubtsMayBe: who is in doubt has a lock, and who has a lock is in doubt.
func doubtsMayBe(s api.Store) bool {
	for i, d := range s.Doubts {
		if !bounds.Within(d.Age, 0, api.MaxAge) || !slices.ContainsFunc(s.Locks, of(d.Txn)) {
			return false
		}
		if slices.ContainsFunc(s.Doubts[:i], doubtOf(d.Txn)) || isOver(s, d.Txn) {
			return false
		}
	}
	for _, k := range s.Locks {
		if !slices.ContainsFunc(s.Doubts, doubtOf(k.Txn)) {
			return false
		}
	}
	return true
}

// refuse what all calls refuse that are of a transaction and a key.
func refuse(s api.Store, t api.Txn, key int) api.Errno {
	if e := refuseTxn(s, t); e != api.OK {
		return e
	}
	if !bounds.Key(key) {
		return api.ErrRange
	}
	return api.OK
}

func refuseTxn(s api.Store, t api.Txn) api.Errno {
	if e := Check(s); e != api.OK {
		return e
	}
	if !isTxn(t) {
		return api.ErrRange
	}
	return api.OK
}

// isTxn: a store does not know how many sites there are, so it may be of any that may be.
func isTxn(t api.Txn) bool {
	return bounds.Txn(t, api.MaxSites)
}

func isAsk(n int) bool {
	return bounds.Within(n, 0, api.MaxNumber)
}
