package store

import (
	"slices"

	"reredos/api"
)

// of: a lock of a transaction?
func of(t api.Txn) func(api.Lock) bool {
	return func(k api.Lock) bool { return k.Txn == t }
}

// by: a lock of a transaction, on a key?
func by(t api.Txn, key int) func(api.Lock) bool {
	return func(k api.Lock) bool { return k.Txn == t && k.Key == key }
}

// byOthers: a lock of any other transaction, on a key?
func byOthers(t api.Txn, key int) func(api.Lock) bool {
	return func(k api.Lock) bool { return k.Txn != t && k.Key == key }
}

// writes: a lock on a key that is a Write?
func writes(key int) func(api.Lock) bool {
	return func(k api.Lock) bool { return k.Write && k.Key == key }
}

// against: a lock that may not stand beside another one?
func against(k api.Lock) func(api.Lock) bool {
	return func(o api.Lock) bool { return o.Key == k.Key && (o.Txn == k.Txn || o.Write || k.Write) }
}

// doubtOf: is it that of a transaction?
func doubtOf(t api.Txn) func(api.Doubt) bool {
	return func(d api.Doubt) bool { return d.Txn == t }
}

func isOver(s api.Store, t api.Txn) bool {
	return slices.Contains(s.Over, t)
}

// writesOf: the locks of a transaction that are Writes.
func writesOf(s api.Store, t api.Txn) []api.Lock {
	var l []api.Lock
	for _, k := range s.Locks {
		if k.Write && k.Txn == t {
			l = append(l, k)
		}
	}
	return l
}

// item of a key; one that was never written has the value 0, and the version 0.
func item(s api.Store, key int) api.Item {
	i := slices.IndexFunc(s.Items, func(x api.Item) bool { return x.Key == key })
	if i < 0 {
		return api.Item{Key: key}
	}
	return s.Items[i]
}
