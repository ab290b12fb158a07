package recover_test

import (
	"testing"

	"reredos/api"
)

// TestNotes: P8.1: a note for each Forced, in their order, however many there are.
func TestNotes(t *testing.T) {
	comesNotes(t, "one", []api.Note{{Txn: own(1), Yes: true}}, prepared(own(1), 1, 1, 1), forced(own(1), true))
	comesNotes(t, "some", []api.Note{{Txn: third(4)}, {Txn: own(1), Yes: true}, {Txn: other(1)}}, forced(third(4), false), forced(own(1), true), forced(other(1), false))
	comesNotes(t, "one word after the other", []api.Note{{Txn: own(1), Yes: true}, {Txn: own(1)}, {Txn: own(1), Yes: true}}, forced(own(1), true), forced(own(1), false), forced(own(1), true))
	comesNotes(t, "of no other record", nil, prepared(own(1), 1, 1, 1), began(own(1)), committed(own(1), 1), ended(own(1)), applied(own(1), true))
	var l []api.Record
	var want []api.Note
	for n := range api.MaxAudit + 5 {
		l = append(l, forced(own(n+1), n%3 == 0))
		want = append(want, api.Note{Txn: own(n + 1), Yes: n%3 == 0})
	}
	comesNotes(t, "more than MaxAudit", want, l...)
}

// TestDamage: P8.1: each note of the transaction whose Yes is another one than the Applied's.
func TestDamage(t *testing.T) {
	for _, yes := range []bool{true, false} {
		note, bad := api.Note{Txn: own(1), Yes: yes}, api.Note{Txn: own(1), Yes: yes, Damage: true}
		against := api.Note{Txn: own(1), Yes: !yes}
		comesNotes(t, "the other word", []api.Note{bad}, forced(own(1), yes), applied(own(1), !yes))
		comesNotes(t, "the same word", []api.Note{note}, forced(own(1), yes), applied(own(1), yes))
		comesNotes(t, "it stays", []api.Note{bad}, forced(own(1), yes), applied(own(1), !yes), applied(own(1), yes))
		comesNotes(t, "later", []api.Note{bad}, forced(own(1), yes), applied(own(1), yes), began(own(7)), applied(own(1), !yes))
		comesNotes(t, "ahead of it", []api.Note{note}, applied(own(1), !yes), forced(own(1), yes))
		comesNotes(t, "of others", []api.Note{note}, forced(own(1), yes), applied(own(2), !yes), applied(other(1), !yes), applied(third(1), !yes))
		comesNotes(t, "by force there is none", []api.Note{note, against}, forced(own(1), yes), forced(own(1), !yes))
		comesNotes(t, "those that say otherwise", []api.Note{bad, against, bad, note}, forced(own(1), yes), forced(own(1), !yes), forced(own(1), yes), applied(own(1), !yes), forced(own(1), yes))
		comesNotes(t, "by a Committed there is none", []api.Note{note}, forced(own(1), yes), began(own(1)), committed(own(1), 1), ended(own(1)))
	}
}
