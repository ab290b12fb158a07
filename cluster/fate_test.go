package cluster_test

import (
	"fmt"
	"testing"
)

// TestFate: P11.8: who is committed has a fate: the label's place, the Txn, and the tasks.
func TestFate(t *testing.T) {
	for _, x := range []struct{ script, want string }{
		{begun, "[]"},
		{done, "[]"},
		{committed, "[{0 {0 1} [{true 0 1 7 0 1 true false}]}]"},
		{ended, "[{0 {0 1} [{true 0 1 7 0 1 true false}]}]"},
		{begun + "ask 0 0 commit 1", "[{0 {0 1} []}]"},
		{begun + "ask 0 0 commit 1; ask 0 0 commit 1", "[{0 {0 1} []}]"},
		{done + "ask 0 0 rollback 1", "[]"},
		{prepared + "ask 0 0 commit 1", "[]"},
		{"ask 1 2 begin; ask 1 2 begin; ask 1 2 commit 2", "[{2 {1 2} []}]"},
		{committed + "crash 0", "[{0 {0 1} [{true 0 1 7 0 1 true false}]}]"},
		{committed + "type 1 0 force 0 0 1 abort; deliver 0 1 0 0", "[{0 {0 1} [{true 0 1 7 0 1 true false}]}]"},
	} {
		is(t, x.script, play(t, x.script).Fates, x.want)
	}
}

// reads: a transaction of site 0 reads the keys 1 and 3 of site 1, and asks to be committed.
const reads = begun + "ask 0 0 get 1 0 1; deliver 0 1 0 0; deliver 1 0 0 0; ask 0 0 get 1 0 3; deliver 0 1 0 0; deliver 1 0 0 0; ask 0 0 commit 1;"

// TestFateSure: P11.8: what has read has a fate when it is committed, not when it is sure; its tasks are told as they were when it asked for that.
func TestFateSure(t *testing.T) {
	const both = "[{0 {0 1} [{false 0 1 0 0 1 true false} {false 0 3 0 0 2 true false}]}]"
	for _, x := range []struct{ more, want string }{
		{"", "[]"},
		{"deliver 0 1 0 0; deliver 1 0 0 0", "[]"},
		{"deliver 0 1 0 0; deliver 1 0 0 0; deliver 0 1 0 0", "[]"},
		{"deliver 0 1 0 0; deliver 1 0 0 0; deliver 0 1 0 0; deliver 1 0 0 0", both},
		{"deliver 0 1 0 1; deliver 1 0 0 0; deliver 0 1 0 0; deliver 1 0 0 0; deliver 0 1 0 0; deliver 1 0 0 0", both},
		{"tick; tick; tick", "[]"},
		{"crash 0; start 0; deliver 0 1 0 0; deliver 1 0 0 0; deliver 0 1 0 0; deliver 1 0 0 0", "[]"},
		{"crash 1; start 1; deliver 0 1 0 0; deliver 1 0 0 0", "[]"},
	} {
		is(t, x.more, play(t, reads+x.more).Fates, x.want)
	}
}

// TestFateTasks: P11.8: values and versions are those that were read; what was refused is no task.
func TestFateTasks(t *testing.T) {
	o := play(t, ended+"ask 1 1 begin; ask 1 1 get 1 0 1; deliver 1 1 1 0; deliver 1 1 1 0; ask 1 1 get 1 2 1; ask 1 1 put 1 5 4; deliver 1 1 1 0; deliver 1 1 1 0; ask 1 1 commit 1; deliver 1 1 1 0; deliver 1 1 1 0")
	is(t, "both", o.Fates, "[{0 {0 1} [{true 0 1 7 0 1 true false}]} {1 {1 1} [{false 0 1 7 1 1 true false} {true 1 5 4 0 2 true false}]}]")
	o = play(t, prepared+"ask 1 1 begin; ask 1 1 get 1 0 1; deliver 1 1 1 0; deliver 1 1 1 0; ask 1 1 get 1 0 3; deliver 1 1 1 0; deliver 1 1 1 0; ask 1 1 commit 1; deliver 1 1 1 0; deliver 1 1 1 0")
	is(t, "busy", o.Fates, "[{1 {1 1} [{false 0 3 0 0 2 true false}]}]")
}

// TestFateOrder: P11.8: fates stand in the order in which they were sure, of all labels and sites, not in that in which they were committed.
func TestFateOrder(t *testing.T) {
	const sure = "deliver 0 1 0 0; deliver 1 0 0 0; deliver 0 1 0 0; deliver 1 0 0 0;"
	others := "ask 1 0 begin; ask 1 0 commit 1; ask 0 1 begin; ask 0 1 commit 1;"
	ids := func(script string) string {
		s := ""
		for _, f := range play(t, script).Fates {
			s += fmt.Sprint(f.Label, f.Txn.Site, f.Txn.N, ";")
		}
		return s
	}
	is(t, "ahead", ids(reads+others+sure), "0 0 1;0 1 1;1 0 1;")
	is(t, "behind", ids(others+reads+sure), "0 1 1;1 0 1;0 0 1;")
	is(t, "not committed", ids(reads+others), "0 1 1;1 0 1;")
	is(t, "the other way", ids("ask 0 0 begin; ask 0 0 begin; ask 0 0 commit 2; ask 0 0 commit 1"), "0 0 2;0 0 1;")
}
