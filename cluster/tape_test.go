package cluster_test

import (
	"fmt"
	"slices"
	"strings"
	"testing"

	"reredos/api"
	"reredos/tape"
)

// Scripts that others begin with, of the label low, where site 0 begins.
const (
	begun     = "ask 0 0 begin;"
	prepared  = begun + "ask 0 0 put 1 1 7; deliver 0 1 0 0;" // the key 1 is at site 1
	done      = prepared + "deliver 1 0 0 0;"
	committed = done + "ask 0 0 commit 1;"
	applied   = committed + "deliver 0 1 0 0;"
	ended     = applied + "deliver 1 0 0 0;"
)

// TestRecords: P11.2: what is written stands on the label's tape at the site; all is synced by it but an Ended, or an Applied without Yes.
func TestRecords(t *testing.T) {
	for _, x := range []struct {
		script string
		site   int
		want   string // the last record
		synced bool
	}{
		{begun, 0, "{5 {0 1} 0 0 0 false []}", true},
		{prepared, 1, "{1 {0 1} 1 7 1 false []}", true},
		{committed, 0, "{3 {0 1} 0 0 0 false [1]}", true},
		{applied, 1, "{2 {0 1} 0 0 0 true []}", true},
		{ended, 0, "{4 {0 1} 0 0 0 false []}", false},
		{ended + "ask 0 0 begin", 0, "{5 {0 2} 0 0 0 false []}", true},
		{done + "ask 0 0 rollback 1; deliver 0 1 0 0", 1, "{2 {0 1} 0 0 0 false []}", false},
		{prepared + "type 1 0 force 0 0 1 commit", 1, "{6 {0 1} 0 0 0 true []}", true},
		{prepared + "type 1 0 force 0 0 1 abort", 1, "{6 {0 1} 0 0 0 false []}", true},
		{committed + "type 1 0 force 0 0 1 abort; deliver 0 1 0 0", 1, "{2 {0 1} 0 0 0 true []}", true},
		{done + "type 1 0 force 0 0 1 commit; ask 0 0 rollback 1; deliver 0 1 0 0", 1, "{2 {0 1} 0 0 0 false []}", false},
	} {
		l, synced := wrote(t, play(t, x.script).Views[low].Tapes[x.site])
		if len(l) == 0 {
			t.Errorf("%s: nothing is written", x.script)
			continue
		}
		is(t, x.script, l[len(l)-1], x.want)
		bytes := 0
		for i, r := range l {
			one, _ := tape.Append(conf(), api.Tape{}, r)
			if i < len(l)-1 || x.synced {
				bytes += len(one.Data)
			}
		}
		if synced != bytes {
			t.Errorf("%s: %d bytes are synced, not %d", x.script, synced, bytes)
		}
	}
}

// TestRecordsWhere: P11.2: nothing is written to the tape of another label, or at another site.
func TestRecordsWhere(t *testing.T) {
	o := play(t, ended)
	mine, _ := wrote(t, o.Views[low].Tapes[0])
	is(t, "site 0", mine, "[{5 {0 1} 0 0 0 false []} {3 {0 1} 0 0 0 false [1]} {4 {0 1} 0 0 0 false []}]")
	other, _ := wrote(t, o.Views[low].Tapes[1])
	is(t, "site 1", other, "[{1 {0 1} 1 7 1 false []} {2 {0 1} 0 0 0 true []}]")
	for _, v := range o.Views[high:] {
		is(t, "above", v.Tapes, "[{[] 0} {[] 0}]")
	}
}

// TestRecordsNone: P11.2: what writes no record syncs nothing, either.
func TestRecordsNone(t *testing.T) {
	was := play(t, ended).Views[low].Tapes
	for _, more := range []string{"tick; tick; tick", "type 0 0 list", "ask 0 0 get 1 0 0", "ask 0 0 commit 1", "deliver 0 1 0 0"} {
		if now := play(t, ended+more).Views[low].Tapes; !same(now, was) {
			t.Errorf("%s: %v; want %v", more, now, was)
		}
	}
}

// TestAnswerAndTurn: P11.2: the store, the notes, the messages and the replies are the label's own, and those of the site.
func TestAnswerAndTurn(t *testing.T) {
	o := play(t, prepared)
	v := o.Views[low]
	is(t, "stores", v.Stores, "[{[] [] [] []} {[] [{{0 1} 1 true 7 1}] [{{0 1} 0}] []}]")
	is(t, "flying", v.Flying, "[[] [] [{6 1 0 {0 1} 0 1 0 0 1 false refused 0}] []]")
	is(t, "replies", v.Replies, "[{0 1 1 0 0 refused 0}]")
	v = play(t, done).Views[low]
	is(t, "replies", v.Replies, "[{0 1 1 0 0 refused 0} {0 3 1 1 0 refused 0}]")
	v = play(t, ended).Views[low]
	is(t, "replies", v.Replies, "[{0 1 1 0 0 refused 0} {0 3 1 1 0 refused 0} {0 4 1 0 0 refused 0}]")
	is(t, "stores", v.Stores, "[{[] [] [] []} {[{1 7 1}] [] [] [{0 1}]}]")
	is(t, "flying", flying(v), "0")
	for _, above := range o.Views[high:] {
		is(t, "above", fmt.Sprint(above.Replies, above.Stores, flying(above)), "[] [{[] [] [] []} {[] [] [] []}] 0")
	}
}

// TestNotes: P11.2: notes stay, but for what Force and Hear say of them; a tick tells none, and takes none.
func TestNotes(t *testing.T) {
	forced := done + "type 1 0 force 0 0 1 abort;"
	is(t, "forced", play(t, forced).Views[low].Notes, "[[] [{{0 1} false false}]]")
	is(t, "ticked", play(t, forced+"tick; tick").Views[low].Notes, "[[] [{{0 1} false false}]]")
	is(t, "heard", play(t, forced+"ask 0 0 commit 1; deliver 0 1 0 0; tick").Views[low].Notes, "[[] [{{0 1} false true}]]")
	is(t, "as it was", play(t, forced+"ask 0 0 rollback 1; deliver 0 1 0 0").Views[low].Notes, "[[] [{{0 1} false false}]]")
}

// TestLost: P11.2: where MaxFlying messages are on their way more are lost, and all else is as it would be.
func TestLost(t *testing.T) {
	full := begun + "ask 0 0 get 1 0 1;"
	for range api.MaxFlying - 1 {
		full += "copy 0 1 0 0;"
	}
	v := play(t, full+"ask 0 0 begin; ask 0 0 put 2 3 5; copy 0 1 0 0; ask 0 0 get 2 0 1").Views[low]
	if got := kinds(v, conf(), 0, 1); len(got) != api.MaxFlying || got[api.MaxFlying-1] != api.Read {
		t.Errorf("%v", got)
	}
	is(t, "it waits for what was lost", codes(v.Replies), "[0 0 14]")
	is(t, "the other list has room", kinds(play(t, full+"ask 0 0 begin; ask 0 0 put 2 2 5").Views[low], conf(), 0, 0), "[2]")
}

// fullTape: a script with four sites after which so much is still to be written at site 0 that its tape cannot take all of it. Sixty transactions of the other sites were forced to be committed there, and are rolled back: their Decides are on their way. Six transactions of site 0 have written elsewhere. Then a transaction of site 1 has its write at site 0 prepared over and over, until there is no room for that any more.
func fullTape() string {
	var text strings.Builder
	for i := range 60 {
		site, n, waiting := 1+i%3, 1+i/3, i/3
		fmt.Fprintf(&text, "ask %d 0 begin; ask %d 0 put %d 0 1; deliver %d 0 0 %d; deliver 0 %d 0 0;", site, site, n, site, waiting, site)
		fmt.Fprintf(&text, "type 0 0 force 0 %d %d commit; ask %d 0 rollback %d;", site, n, site, n)
	}
	for i, key := range []int{1, 2, 3, 5, 6, 7} {
		n, to := 1+i, key%4
		fmt.Fprintf(&text, "ask 0 0 begin; ask 0 0 put %d %d 9; deliver 0 %d 0 0; deliver %d 0 0 20;", n, key, to, to)
	}
	text.WriteString("ask 1 0 begin; ask 1 0 put 21 4 8;")
	text.WriteString(strings.Repeat("copy 1 0 0 20; deliver 1 0 0 20;", 310))
	text.WriteString("deliver 0 1 0 0; drop 1 0 0 20;" + strings.Repeat("drop 0 1 0 0;", 29))
	return text.String()
}

// TestFull: P11.2: a record that the tape has no room for is not written; all else that comes of the answer, or the turn, comes all the same.
func TestFull(t *testing.T) {
	c := api.Config{Sites: 4, Labels: []api.Label{{}}, Patience: api.MaxAge}
	var l []api.Act
	more := func(text string) api.View {
		l = append(l, actsOf(t, c, text)...)
		return run(t, c, l).Views[0]
	}
	tapeIs := func(what string, v api.View, left, unsynced int) {
		t.Helper()
		x := v.Tapes[0]
		is(t, what, fmt.Sprint(api.MaxTape-len(x.Data), " ", len(x.Data)-x.Synced), fmt.Sprint(left, " ", unsynced))
	}
	v := more(fullTape())
	left := api.MaxTape - len(v.Tapes[0].Data)
	if left < api.RoomWrite-14 || left >= api.RoomWrite || len(v.Notes[0]) != 60 {
		t.Fatalf("%d bytes are free, %d notes", left, len(v.Notes[0]))
	}
	// Each Decide damages a note: an Applied of 7 bytes.
	v = more(strings.Repeat("deliver 1 0 0 0; deliver 2 0 0 0; deliver 3 0 0 0; drop 0 1 0 0; drop 0 2 0 0; drop 0 3 0 0;", 20))
	left -= 60 * 7
	tapeIs("Applied", v, left, 60*7)
	// A Committed has 8 bytes here.
	v = more("ask 0 0 commit 1; ask 0 0 commit 2; ask 0 0 commit 3; ask 0 0 commit 4; ask 0 0 commit 5; ask 0 0 commit 6")
	left -= 6 * 8
	tapeIs("Committed", v, left, 0)
	if left < 6 || left >= 6*6 || left%6 == 0 {
		t.Fatalf("%d bytes are free", left)
	}
	// Six bytes each: not all of them find room.
	v = more(strings.Repeat("deliver 0 1 0 0; deliver 1 0 0 0; deliver 0 2 0 0; deliver 2 0 0 0; deliver 0 3 0 0; deliver 3 0 0 0;", 2))
	fits := left / 6
	left %= 6
	tapeIs("Ended", v, left, fits*6)
	// The last write is applied, though that is not on the tape; what was to be safe makes all safe that is there.
	v = more("ask 1 0 commit 21; deliver 1 0 0 0")
	tapeIs("Applied, with Yes", v, left, 0)
	is(t, "items", v.Stores[0].Items, "[{0 1 60} {4 8 1}]")
	is(t, "locks", v.Stores[0].Locks, "[]")
	is(t, "it is told", kinds(v, c, 0, 1), "[8]")
	is(t, "all jobs are over", codes(more("ask 0 0 commit 1; ask 0 0 commit 6").Replies[len(v.Replies):]), "[6 6]")
	// Behind a crash all is as if what found no room had never been.
	v = more("crash 0; start 0")
	is(t, "items", v.Stores[0].Items, "[{0 1 60}]")
	is(t, "locks", v.Stores[0].Locks, "[{{1 21} 4 true 8 1}]")
	n := len(v.Replies)
	v = more("ask 0 0 get 1 0 0; ask 0 0 get 2 0 0; ask 0 0 get 3 0 0; ask 0 0 get 4 0 0; ask 0 0 get 5 0 0; ask 0 0 get 6 0 0")
	is(t, "jobs", codes(v.Replies[n:]), fmt.Sprint(append(slices.Repeat([]int{6}, fits), slices.Repeat([]int{13}, 6-fits)...)))
}
