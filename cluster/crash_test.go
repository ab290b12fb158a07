package cluster_test

import (
	"fmt"
	"testing"

	"reredos/api"
)

// TestCrash: P11.6: what is not on the tape is gone, of all labels at the site; nothing else is.
func TestCrash(t *testing.T) {
	above := "ask 1 1 begin; ask 1 1 put 1 3 9; deliver 1 1 1 0; type 1 1 force 1 1 1 abort;"
	was := play(t, above+applied)
	o := play(t, above+applied+"crash 1")
	is(t, "up", o.Up, "[true false]")
	for l, v := range o.Views {
		is(t, "store", v.Stores[1], "{[] [] [] []}")
		is(t, "notes", v.Notes[1], "[]")
		if x := was.Views[l]; !same(v.Stores[0], x.Stores[0]) || !same(v.Notes[0], x.Notes[0]) || !same(v.Tapes, x.Tapes) {
			t.Errorf("%v; want %v", v, x)
		}
		if x := was.Views[l]; !same(v.Flying, x.Flying) || !same(v.Replies, x.Replies) {
			t.Errorf("%v; want %v", v, x)
		}
	}
	is(t, "notes ahead of it", was.Views[high].Notes[1], "[{{1 1} false false}]")
}

// TestCrashKeep: P11.6: of what is not synced so many bytes are kept as Keep says at the label's place; all that is left is synced.
func TestCrashKeep(t *testing.T) {
	// An Ended of six bytes that are not synced, of each label.
	script := "ask 0 %[1]d begin; ask 0 %[1]d put 1 1 7; deliver 0 1 %[1]d 0; deliver 1 0 %[1]d 0; ask 0 %[1]d commit 1; deliver 0 1 %[1]d 0; deliver 1 0 %[1]d 0;"
	three := ""
	for l := range conf().Labels {
		three += fmt.Sprintf(script, l)
	}
	for _, x := range []struct {
		crash string
		want  [3]int
	}{
		{"crash 0", [3]int{0, 0, 0}},
		{"crash 0 1", [3]int{1, 0, 0}},
		{"crash 0 5 6", [3]int{5, 6, 0}},
		{"crash 0 0 0 3", [3]int{0, 0, 3}},
		{"crash 0 7 6000 2", [3]int{6, 6, 2}},
	} {
		o := play(t, three+x.crash)
		started := play(t, three+x.crash+"; start 0; ask 0 0 get 1 0 0; ask 0 1 get 1 0 0; ask 0 2 get 1 0 0")
		for l, v := range o.Views {
			n := 14 + x.want[l]
			is(t, x.crash, fmt.Sprint(len(v.Tapes[0].Data), " ", v.Tapes[0].Synced), fmt.Sprint(n, " ", n))
			// A record that is not whole is cut off, and the job is there again.
			code := api.ErrNone
			if x.want[l] < 6 {
				n, code = 14, api.ErrOver
			}
			v = started.Views[l]
			is(t, x.crash, fmt.Sprint(len(v.Tapes[0].Data), " ", v.Tapes[0].Synced), fmt.Sprint(n, " ", n))
			is(t, x.crash, v.Replies[len(v.Replies)-1].Code, fmt.Sprint(code))
		}
	}
}

// TestCrashDown: P11.6: a crash of a site that is down does nothing, and neither does the start of one that is up.
func TestCrashDown(t *testing.T) {
	for _, x := range []struct{ script, more string }{
		{ended + "crash 0 3;", "crash 0"},
		{ended + "crash 0 3;", "crash 0 6000 6000 6000"},
		{ended + "crash 0 6; crash 1;", "crash 1; crash 0; crash 1"},
		{ended + "crash 0; start 0;", "start 0"},
		{prepared + "tick;", "start 0; start 1"},
		{"", "start 0; start 1"},
		{begun + "ask 0 0 get 1 0 0; deliver 0 0 0 0;", "start 0"},
	} {
		if was, now := play(t, x.script), play(t, x.script+x.more); !same(now, was) {
			t.Errorf("%s; %s: %v; want %v", x.script, x.more, now, was)
		}
	}
	// Its desk is not rebuilt, either: the transaction that was begun is still there.
	is(t, "still begun", added(t, low, begun, "start 0; ask 0 0 commit 1"), "[{0 4 1 0 0 refused 0}]")
}

// TestStart: P11.6: the store, the desk and the notes are those of the records on the tape.
func TestStart(t *testing.T) {
	again := "crash 0; crash 1; start 1; start 0;"
	o := play(t, prepared+again)
	is(t, "up", o.Up, "[true true]")
	is(t, "what was prepared", o.Views[low].Stores, "[{[] [] [] []} {[] [{{0 1} 1 true 7 1}] [{{0 1} 0}] []}]")
	is(t, "what was applied", play(t, applied+again).Views[low].Stores[1], "{[{1 7 1}] [] [] [{0 1}]}")
	is(t, "what was read", play(t, begun+"ask 0 0 get 1 0 1; deliver 0 1 0 0;"+again).Views[low].Stores[1], "{[] [] [] []}")
	is(t, "what was forced", play(t, committed+"type 1 0 force 0 0 1 abort; deliver 0 1 0 0;"+again).Views[low].Notes, "[[] [{{0 1} false true}]]")
	is(t, "who was begun is gone", added(t, low, begun+again, "ask 0 0 commit 1"), "[{0 4 1 0 0 refused 6}]")
	is(t, "its number is used", added(t, low, begun+again, "ask 0 0 begin; ask 0 1 begin"), "[{0 1 2 0 0 refused 0}]")
	is(t, "at this label alone", added(t, high, begun+again, "ask 0 0 begin; ask 0 1 begin"), "[{0 1 1 0 0 refused 0}]")
	is(t, "who was committed is told", kinds(play(t, committed+"drop 0 1 0 0;"+again+"tick; tick; tick").Views[low], conf(), 0, 1), "[4]")
}

// TestStartLost: P11.6: what an Applied without Yes had said is asked for again, and answered as it was.
func TestStartLost(t *testing.T) {
	lost := done + "ask 0 0 rollback 1; deliver 0 1 0 0; deliver 1 0 0 0; crash 1; start 1;"
	is(t, "in doubt again", play(t, lost).Views[low].Stores[1], "{[] [{{0 1} 1 true 7 1}] [{{0 1} 0}] []}")
	is(t, "over again", play(t, lost+"tick; tick; tick; deliver 1 0 0 0; deliver 0 1 0 0").Views[low].Stores[1], "{[] [] [] [{0 1}]}")
	is(t, "kept", play(t, done+"ask 0 0 rollback 1; deliver 0 1 0 0; crash 1 7; start 1").Views[low].Stores[1], "{[] [] [] [{0 1}]}")
	is(t, "not whole", play(t, done+"ask 0 0 rollback 1; deliver 0 1 0 0; crash 1 6; start 1").Views[low].Tapes[1], "{[13 1 0 0 0 1 1 0 0 0 7 0 0 1] 14}")
}
