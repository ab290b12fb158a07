package lines_test

import (
	"fmt"
	"slices"
	"strings"
	"testing"

	"reredos/api"
	"reredos/lines"
)

// written: acts, and the lines that they are written with.
type written struct {
	act  api.Act
	line string
}

// some acts of each kind, within conf, and their lines.
func some() []written {
	ask := func(site, place int, x api.Call) api.Act {
		return api.Act{Kind: api.Ask, Site: site, Label: place, Call: x}
	}
	return []written{
		{ask(0, 1, api.Call{Kind: api.Begin}), "ask 0 1 begin"},
		{ask(2, 0, api.Call{Kind: api.Get, N: 3, Label: 4, Key: 5}), "ask 2 0 get 3 4 5"},
		{ask(1, 1, api.Call{Kind: api.Get, N: api.MaxNumber, Label: api.MaxLabels - 1, Key: api.Keys}), "ask 1 1 get 1048576 5 8"},
		{ask(1, 0, api.Call{Kind: api.Get}), "ask 1 0 get 0 0 0"},
		{ask(2, 1, api.Call{Kind: api.Put, N: 3, Key: 6, Value: 70}), "ask 2 1 put 3 6 70"},
		{ask(0, 0, api.Call{Kind: api.Put, N: 1, Key: api.Keys, Value: api.MaxValue}), "ask 0 0 put 1 8 1073741824"},
		{ask(1, 0, api.Call{Kind: api.Commit, N: 12}), "ask 1 0 commit 12"},
		{ask(0, 1, api.Call{Kind: api.Rollback, N: 100}), "ask 0 1 rollback 100"},
		{ask(0, 0, api.Call{Kind: api.Rollback}), "ask 0 0 rollback 0"},
		{api.Act{Kind: api.Deliver, Site: 2, To: 0, Label: 1, Pick: 30}, "deliver 2 0 1 30"},
		{api.Act{Kind: api.Deliver}, "deliver 0 0 0 0"},
		{api.Act{Kind: api.Drop, Site: 0, To: 2, Label: 0, Pick: api.MaxPick}, "drop 0 2 0 1048576"},
		{api.Act{Kind: api.Copy, Site: 1, To: 2, Label: 0, Pick: 9}, "copy 1 2 0 9"},
		{api.Act{Kind: api.Tick}, "tick"},
		{api.Act{Kind: api.Crash, Site: 1}, "crash 1"},
		{api.Act{Kind: api.Crash, Keep: []int{}}, "crash 0"},
		{api.Act{Kind: api.Crash, Site: 2, Keep: []int{0}}, "crash 2 0"},
		{api.Act{Kind: api.Crash, Site: 2, Keep: []int{api.MaxTape, 10}}, "crash 2 6000 10"},
		{api.Act{Kind: api.Start, Site: 2}, "start 2"},
		{api.Act{Kind: api.Type, Site: 2, Label: 1, Line: "list"}, "type 2 1 .6c697374"},
		{api.Act{Kind: api.Type, Site: 1}, "type 1 0 ."},
		{api.Act{Kind: api.Type, Line: "\x00\x0f\xf0\xff\n ."}, "type 0 0 .000ff0ff0a202e"},
		{api.Act{Kind: api.Type, Line: strings.Repeat("\u00e4", api.MaxLine/2)}, "type 0 0 ." + strings.Repeat("c3a4", api.MaxLine/2)},
	}
}

// bad acts: one for each error.
func bad() map[api.Errno]api.Act {
	return map[api.Errno]api.Act{
		api.ErrKind:  {Kind: 9, Site: -1},
		api.ErrRange: {Kind: api.Start, Site: 3, To: 1},
		api.ErrForm:  {Kind: api.Tick, Site: 1},
	}
}

// sameActs: lists without elements may be nil or not.
func sameActs(a, b []api.Act) bool {
	return slices.EqualFunc(a, b, func(x, y api.Act) bool {
		keep := slices.Equal(x.Keep, y.Keep)
		x.Keep, y.Keep = nil, nil
		return keep && fmt.Sprintf("%#v", x) == fmt.Sprintf("%#v", y)
	})
}

// shows: acts are written like this.
func shows(t *testing.T, l []api.Act, want string) {
	t.Helper()
	if s, place, e := lines.Show(conf(), l); s != want || place != 0 || e != api.OK {
		t.Errorf("%v: %q, %d, %v; want %q", l, s, place, e, want)
	}
}

// unshown: acts are refused, and nothing is told beside but the place.
func unshown(t *testing.T, l []api.Act, at int, want api.Errno) {
	t.Helper()
	if s, place, e := lines.Show(conf(), l); s != "" || place != at || e != want {
		t.Errorf("%d acts: %q, %d, %v; want %d, %v", len(l), s, place, e, at, want)
	}
}

// TestShow: P10.3: each kind of act and call, by itself and in a row.
func TestShow(t *testing.T) {
	var all []api.Act
	text := ""
	for _, x := range some() {
		shows(t, []api.Act{x.act}, x.line+"\n")
		all, text = append(all, x.act), text+x.line+"\n"
	}
	shows(t, all, text)
	slices.Reverse(all)
	shows(t, append(all[:1:1], all[len(all)-1]), some()[len(some())-1].line+"\n"+some()[0].line+"\n")
	shows(t, nil, "")
	shows(t, []api.Act{}, "")
}

// TestShowBytes: P10.3: each byte is two digits, with small letters.
func TestShowBytes(t *testing.T) {
	for b := range 256 {
		shows(t, []api.Act{{Kind: api.Type, Line: string([]byte{byte(b), 'a', byte(255 - b)})}}, fmt.Sprintf("type 0 0 .%02x61%02x\n", b, 255-b))
	}
}

// TestShowWrong: P10.3: the first act that may not be tells, and where it is.
func TestShowWrong(t *testing.T) {
	for e, a := range bad() {
		for ahead := range 4 {
			l := append(slices.Repeat([]api.Act{{Kind: api.Tick}}, ahead), a)
			unshown(t, l, ahead, e)
			unshown(t, append(l, api.Act{Kind: api.Tick}), ahead, e)
			for _, other := range bad() {
				unshown(t, append(l, other), ahead, e)
			}
		}
	}
	unshown(t, []api.Act{{Kind: api.Tick}, {Kind: api.Ask, Call: api.Call{Kind: api.Get, N: -1}}}, 1, api.ErrRange)
	unshown(t, []api.Act{{Kind: api.Tick}, {Kind: api.Ask, Call: api.Call{Kind: 6}}}, 1, api.ErrKind)
	unshown(t, []api.Act{{Kind: api.Tick}, {Kind: api.Ask, Call: api.Call{Kind: api.Begin, N: 1}}}, 1, api.ErrForm)
}

// TestShowSize: P10.3: MaxActs may be, one more may not, whatever it is.
func TestShowSize(t *testing.T) {
	l := slices.Repeat([]api.Act{{Kind: api.Start, Site: 1}}, api.MaxActs)
	shows(t, l, strings.Repeat("start 1\n", api.MaxActs))
	unshown(t, append(l, api.Act{Kind: api.Tick}), 0, api.ErrSize)
	unshown(t, append(l, api.Act{}), 0, api.ErrSize)
	unshown(t, slices.Repeat(l, 2), 0, api.ErrSize)
	for e, a := range bad() {
		wrong := slices.Clone(l)
		wrong[api.MaxActs-1] = a
		unshown(t, wrong, api.MaxActs-1, e)
		wrong[7] = a
		unshown(t, append(wrong, api.Act{Kind: api.Tick}), 0, api.ErrSize)
	}
}
