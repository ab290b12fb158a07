package cluster_test

import (
	"fmt"
	"strings"
	"testing"

	"reredos/api"
)

// added: the replies of a label that a script has more than the one that it begins with.
func added(t *testing.T, l int, first, more string) []api.Reply {
	t.Helper()
	n := len(play(t, first).Views[l].Replies)
	return play(t, first+more).Views[l].Replies[n:]
}

// TestAsk: P11.3: a call goes to the Label's desk at the Site.
func TestAsk(t *testing.T) {
	for _, x := range []struct{ more, want string }{
		{"ask 0 0 begin", "[{0 1 2 0 0 refused 0}]"},
		{"ask 1 0 begin", "[{1 1 1 0 0 refused 0}]"},
		{"ask 0 0 commit 1", "[{0 4 1 0 0 refused 0}]"},
		{"ask 1 0 commit 1", "[{1 4 1 0 0 refused 6}]"},
		{"ask 0 0 rollback 1", "[{0 5 1 0 0 refused 0}]"},
		{"ask 0 0 get 1 0 8", "[{0 2 1 8 0 refused 2}]"},
		{"ask 0 0 get 1 1 3", "[{0 2 1 3 0 refused 10}]"},
		{"ask 0 0 get 1 5 3", "[{0 2 1 3 0 refused 10}]"},
		{"ask 0 0 put 1 8 1", "[{0 3 1 8 0 refused 2}]"},
		{"ask 0 0 put 1 7 1", "[]"},
		{"ask 0 0 put 1 7 1; ask 0 0 get 1 0 3", "[{0 2 1 3 0 refused 14}]"},
		{"ask 0 0 get 0 0 3", "[{0 2 0 3 0 refused 6}]"},
		{"ask 0 1 commit 1", "[]"},
	} {
		is(t, x.more, added(t, low, begun, x.more), x.want)
	}
	is(t, "of another label", added(t, high, begun, "ask 0 1 commit 1"), "[{0 4 1 0 0 refused 6}]")
}

// TestAskDown: P11.3: of a site that is down a call is replied with ErrDown, and nothing comes of it.
func TestAskDown(t *testing.T) {
	down := begun + "crash 0;"
	for _, x := range []struct{ more, want string }{
		{"ask 0 0 begin", "[{0 1 0 0 0 refused 12}]"},
		{"ask 0 0 get 1 0 8", "[{0 2 1 8 0 refused 12}]"},
		{"ask 0 0 get 1 5 3", "[{0 2 1 3 0 refused 12}]"},
		{"ask 0 0 put 7 6 99", "[{0 3 7 6 0 refused 12}]"},
		{"ask 0 0 commit 1", "[{0 4 1 0 0 refused 12}]"},
		{"ask 0 0 rollback 1048576", "[{0 5 1048576 0 0 refused 12}]"},
		{"ask 1 0 begin", "[{1 1 1 0 0 refused 0}]"},
	} {
		is(t, x.more, added(t, low, down, x.more), x.want)
	}
	is(t, "the label's own", added(t, high, down, "ask 0 1 begin"), "[{0 1 0 0 0 refused 12}]")
	is(t, "not another one's", added(t, low, down, "ask 0 1 begin"), "[]")
	o := play(t, down+"ask 0 0 begin; ask 0 0 put 1 1 1; ask 0 0 commit 1")
	is(t, "nothing is sent", flying(o.Views[low]), "0")
	is(t, "nothing is written", len(o.Views[low].Tapes[0].Data), "6")
	is(t, "nobody is committed", o.Fates, "[]")
}

// TestAskRoom: P11.3: room is what is free on the tape of that label, at that site: with RoomBegin there is a transaction more.
func TestAskRoom(t *testing.T) {
	c := api.Config{Sites: 2, Labels: []api.Label{{}, {Level: 1}}, Patience: 3}
	const begins = "ask 0 0 begin; ask 0 0 rollback %d;"
	var text strings.Builder
	for n := 1; n <= 900; n++ { // of 6 bytes each
		fmt.Fprintf(&text, begins, n)
	}
	v := run(t, c, actsOf(t, c, text.String())).Views[0]
	if free := api.MaxTape - len(v.Tapes[0].Data); free != api.RoomBegin {
		t.Fatalf("%d bytes are free", free)
	}
	n := len(v.Replies)
	o := run(t, c, actsOf(t, c, text.String()+"ask 0 0 begin; ask 0 0 begin; ask 1 0 begin; ask 0 1 begin"))
	is(t, "at the edge", o.Views[0].Replies[n:], "[{0 1 901 0 0 refused 0} {0 1 0 0 0 refused 8} {1 1 1 0 0 refused 0}]")
	is(t, "of another label", o.Views[1].Replies, "[{0 1 1 0 0 refused 0}]")

	// One byte fewer: three writes that are prepared have 14 bytes each, that they are not applied 7.
	text.Reset()
	text.WriteString("ask 0 0 begin;")
	for key := 0; key < 6; key += 2 {
		fmt.Fprintf(&text, "ask 0 0 put 1 %d 1; deliver 0 0 0 0; deliver 0 0 0 0;", key)
	}
	text.WriteString("ask 0 0 rollback 1; deliver 0 0 0 0;")
	for n := 2; n <= 892; n++ {
		fmt.Fprintf(&text, begins, n)
	}
	o = run(t, c, actsOf(t, c, text.String()+"ask 0 0 begin"))
	if free := api.MaxTape - len(o.Views[0].Tapes[0].Data); free != api.RoomBegin-1 {
		t.Fatalf("%d bytes are free", free)
	}
	is(t, "below it", o.Views[0].Replies[len(o.Views[0].Replies)-1], "{0 1 0 0 0 refused 8}")
}

// TestDeliverRoom: P11.4: room is what is free on the tape there: with RoomWrite a write more is prepared.
func TestDeliverRoom(t *testing.T) {
	c := api.Config{Sites: 1, Labels: []api.Label{{}}, Patience: 3}
	const again, drop = "copy 0 0 0 0; deliver 0 0 0 0;", "drop 0 0 0 0;"
	for _, x := range []struct {
		first    string
		copies   int
		free     int
		want     int // of the Done to one Write more
		nextFree int
	}{
		{begun + begun, 392, api.RoomWrite, 0, api.RoomWrite - 14},
		// A write that was rolled back has 7 bytes beside: one byte fewer.
		{begun + "ask 0 0 put 1 5 1; deliver 0 0 0 0; deliver 0 0 0 0; ask 0 0 rollback 1; deliver 0 0 0 0; drop 0 0 0 0;" + strings.Repeat(begun, 6) + "ask 0 0 rollback 2;" + begun, 388, api.RoomWrite - 1, int(api.ErrFull), api.RoomWrite - 1},
	} {
		n := 1
		if x.want != 0 {
			n = 3
		}
		text := x.first + fmt.Sprintf("ask 0 0 put %d 4 9;", n) + strings.Repeat(again+"drop 0 0 0 1;", x.copies)
		v := run(t, c, actsOf(t, c, text)).Views[0]
		if free := api.MaxTape - len(v.Tapes[0].Data); free != x.free {
			t.Fatalf("%d bytes are free; want %d", free, x.free)
		}
		v = run(t, c, actsOf(t, c, text+"deliver 0 0 0 0")).Views[0]
		is(t, "Done", kinds(v, c, 0, 0), "[6]")
		is(t, "its Code", int(v.Flying[0][0].Code), fmt.Sprint(x.want))
		is(t, "free", api.MaxTape-len(v.Tapes[0].Data), fmt.Sprint(x.nextFree))
	}
}

// TestCarry: P11.4: messages are delivered, dropped and copied as P5.3 says: those from the Site to the other one, of the Label.
func TestCarry(t *testing.T) {
	three := "ask 0 0 begin; ask 0 0 begin; ask 0 0 begin; ask 0 0 get 1 0 1; ask 0 0 put 2 3 5; ask 0 0 get 3 0 5;"
	for _, x := range []struct{ more, there, back string }{
		{"", "[1 2 1]", "[]"},
		{"deliver 0 1 0 0", "[2 1]", "[5]"},
		{"deliver 0 1 0 1", "[1 1]", "[6]"},
		{"deliver 0 1 0 4", "[1 1]", "[6]"},
		{"deliver 0 1 0 1048576", "[1 1]", "[6]"},
		{"drop 0 1 0 1", "[1 1]", "[]"},
		{"drop 0 1 0 2; drop 0 1 0 2", "[2]", "[]"},
		{"copy 0 1 0 1", "[1 2 1 2]", "[]"},
		{"copy 0 1 0 4; deliver 0 1 0 3", "[1 2 1]", "[6]"},
		{"deliver 1 0 0 0; drop 1 0 0 0; copy 1 0 0 0", "[1 2 1]", "[]"},
		{"deliver 0 0 0 0; deliver 1 1 0 0", "[1 2 1]", "[]"},
		{"deliver 0 1 1 0; drop 0 1 2 0; copy 0 1 1 0", "[1 2 1]", "[]"},
		{"deliver 0 1 0 0; deliver 0 1 0 0; deliver 0 1 0 0; deliver 0 1 0 0", "[]", "[5 6 5]"},
	} {
		v := play(t, three+x.more).Views[low]
		is(t, x.more, kinds(v, conf(), 0, 1), x.there)
		is(t, x.more, kinds(v, conf(), 1, 0), x.back)
	}
}

// TestCopyFull: P11.4: a Copy where MaxFlying messages are does nothing.
func TestCopyFull(t *testing.T) {
	full := begun + "ask 0 0 get 1 0 1;" + strings.Repeat("copy 0 1 0 0;", api.MaxFlying-1)
	was := play(t, full)
	if n := flying(was.Views[low]); n != api.MaxFlying {
		t.Fatalf("%d are on their way", n)
	}
	if now := play(t, full+"copy 0 1 0 0; copy 0 1 0 3"); !same(now, was) {
		t.Errorf("%v; want %v", now, was)
	}
}

// TestHear: P11.4: of each kind of message what comes of it when it is delivered.
func TestHear(t *testing.T) {
	read := begun + "ask 0 0 get 1 0 1;"
	for _, x := range []struct{ script, what, want string }{
		{read + "deliver 0 1 0 0", "Read", "[[] [] [{5 1 0 {0 1} 0 1 0 0 1 false refused 0}] []]"},
		{prepared, "Write", "[[] [] [{6 1 0 {0 1} 0 1 0 0 1 false refused 0}] []]"},
		{read + "deliver 0 1 0 0; deliver 1 0 0 0; ask 0 0 commit 1; deliver 0 1 0 0", "Check", "[[] [] [{7 1 0 {0 1} 0 1 0 0 0 true refused 0}] []]"},
		{applied, "Decide", "[[] [] [{8 1 0 {0 1} 0 0 0 0 0 false refused 0}] []]"},
		{read + "deliver 0 1 0 0; deliver 1 0 0 0", "Got", "[[] [] [] []]"},
		{done, "Done", "[[] [] [] []]"},
		{read + "deliver 0 1 0 0; deliver 1 0 0 0; ask 0 0 commit 1; deliver 0 1 0 0; deliver 1 0 0 0", "Sure", "[[] [{4 0 1 {0 1} 0 0 0 0 0 true refused 0}] [] []]"},
		{ended, "Ack", "[[] [] [] []]"},
		{committed + "drop 0 1 0 0; tick; tick; tick; drop 0 1 0 0; deliver 1 0 0 0", "Doubts", "[[] [{4 0 1 {0 1} 0 0 0 0 0 true refused 0}] [] []]"},
	} {
		is(t, x.what, play(t, x.script).Views[low].Flying, x.want)
	}
	is(t, "Got", added(t, low, read, "deliver 0 1 0 0; deliver 1 0 0 0"), "[{0 2 1 1 0 refused 0}]")
	is(t, "Done", added(t, low, prepared, "deliver 1 0 0 0"), "[{0 3 1 1 0 refused 0}]")
	is(t, "Sure", added(t, low, read+"deliver 0 1 0 0; deliver 1 0 0 0; ask 0 0 commit 1; deliver 0 1 0 0;", "deliver 1 0 0 0"), "[{0 4 1 0 0 refused 0}]")
}

// TestHearBelow: P11.4: what is read of a lower label is found in that one's store, at the site that it is delivered to, and leaves nothing there.
func TestHearBelow(t *testing.T) {
	below := ended + "ask 1 1 begin; ask 1 1 get 1 0 1; deliver 1 1 1 0;"
	o := play(t, below+"deliver 1 1 1 0")
	is(t, "above", o.Views[high].Replies, "[{1 1 1 0 0 refused 0} {1 2 1 1 7 refused 0}]")
	if was := play(t, ended); !same(o.Views[low], was.Views[low]) {
		t.Errorf("below: %v; want %v", o.Views[low], was.Views[low])
	}
	is(t, "above", o.Views[high].Stores, "[{[] [] [] []} {[] [] [] []}]")
	o = play(t, prepared+"ask 1 1 begin; ask 1 1 get 1 0 1; deliver 1 1 1 0; deliver 1 1 1 0")
	is(t, "busy", o.Views[high].Replies, "[{1 1 1 0 0 refused 0} {1 2 1 1 0 refused 11}]")
}

// TestDeliverDown: P11.4: what is delivered to a site that is down is lost; drops and copies do not ask after that, and neither does what is on its way from there.
func TestDeliverDown(t *testing.T) {
	down := begun + "ask 0 0 put 1 1 7; crash 1;"
	for _, x := range []struct{ more, there string }{
		{"", "[2]"},
		{"deliver 0 1 0 0", "[]"},
		{"drop 0 1 0 0", "[]"},
		{"copy 0 1 0 0", "[2 2]"},
		{"copy 0 1 0 0; deliver 0 1 0 0; start 1", "[2]"},
	} {
		o := play(t, down+x.more)
		is(t, x.more, kinds(o.Views[low], conf(), 0, 1), x.there)
		is(t, x.more, o.Views[low].Stores, "[{[] [] [] []} {[] [] [] []}]")
		is(t, x.more, flying(o.Views[low])-len(kinds(o.Views[low], conf(), 0, 1)), "0")
	}
	is(t, "a coordinator that is down", play(t, prepared+"crash 0; deliver 1 0 0 0").Views[low].Replies, "[{0 1 1 0 0 refused 0}]")
	is(t, "to one that is up", added(t, low, prepared+"crash 1;", "deliver 1 0 0 0"), "[{0 3 1 1 0 refused 0}]")
	is(t, "up again", kinds(play(t, down+"start 1; deliver 0 1 0 0").Views[low], conf(), 1, 0), "[6]")
}

// TestTick: P11.5: first the doubts of the site, then the jobs of the desk, of each label.
func TestTick(t *testing.T) {
	// Site 0 writes at itself: after three ticks the write is in doubt for long, and the job, which nobody has touched either, is ended.
	script := "ask 0 %[1]d begin; ask 0 %[1]d put 1 0 4; deliver 0 0 %[1]d 0; deliver 0 0 %[1]d 0;"
	both := fmt.Sprintf(script, low) + fmt.Sprintf(script, high)
	o := play(t, both+"tick; tick")
	for _, v := range o.Views[:aside] {
		is(t, "not yet", flying(v), "0")
		is(t, "older", v.Stores[0].Doubts, "[{{0 1} 2}]")
	}
	o = play(t, both+"tick; tick; tick")
	for _, v := range o.Views[:aside] {
		is(t, "asked, then told", v.Flying[0], "[{9 0 0 {0 1} 0 0 0 0 0 false refused 0} {4 0 0 {0 1} 0 0 0 0 0 false refused 0}]")
		is(t, "anew", v.Stores[0].Doubts, "[{{0 1} 0}]")
	}
	is(t, "ticks", o.Ticks, "3")
}

// TestTickSites: P11.5: site by site, of those that are up.
func TestTickSites(t *testing.T) {
	wait := "ask 1 0 begin; ask 1 0 get 1 0 3; ask 0 0 begin; ask 0 0 put 1 2 5; tick; tick;"
	is(t, "both", added(t, low, wait, "tick"), "[{0 3 1 2 0 refused 14} {1 2 1 3 0 refused 14}]")
	is(t, "one is down", added(t, low, wait+"crash 0;", "tick"), "[{1 2 1 3 0 refused 14}]")
	is(t, "the other one is", added(t, low, wait+"crash 1;", "tick"), "[{0 3 1 2 0 refused 14}]")
	is(t, "both are", added(t, low, wait+"crash 1; crash 0;", "tick"), "[]")
	is(t, "they are counted", play(t, "crash 0; crash 1; tick; tick; start 0; tick").Ticks, "3")
	is(t, "none", play(t, "crash 0; start 0").Ticks, "0")
	is(t, "nothing is older", play(t, prepared+"crash 1; tick; tick; start 1").Views[low].Stores[1].Doubts, "[{{0 1} 0}]")
	is(t, "it is older", play(t, prepared+"tick; crash 1; start 1; tick; tick").Views[low].Stores[1].Doubts, "[{{0 1} 2}]")
}
