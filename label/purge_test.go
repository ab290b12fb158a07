package label_test

import (
	"math"
	"reflect"
	"testing"

	"reredos/api"
	"reredos/label"
)

// samePurge holds a purged script against another one; lists without elements may be nil or not.
func samePurge(t *testing.T, what string, got, want []api.Act) {
	t.Helper()
	if len(got) != len(want) {
		t.Errorf("%s: %v, want %v", what, got, want)
		return
	}
	for i := range got {
		a, b := got[i], want[i]
		if len(a.Keep) == 0 && len(b.Keep) == 0 {
			a.Keep, b.Keep = nil, nil
		}
		if !reflect.DeepEqual(a, b) {
			t.Errorf("%s: act %d is %v, want %v", what, i, a, b)
		}
	}
}

func TestPurgeByLabel(t *testing.T) { // P1.5
	sees := [4][4]bool{
		{true, false, false, false},
		{true, true, false, false},
		{true, false, true, false},
		{true, true, true, true},
	}
	kinds := []int{api.Ask, api.Deliver, api.Drop, api.Copy, api.Type, 0, -1, 9, math.MaxInt}
	for l := range sees {
		var acts, want []api.Act
		for i, kind := range kinds {
			for place := range sees[l] {
				a := api.Act{Kind: kind, Site: i, Label: place}
				acts = append(acts, a)
				if sees[l][place] {
					want = append(want, a)
				}
			}
		}
		got, e := label.Purge(diamond(), l, acts)
		if e != api.OK {
			t.Errorf("Purge for %d: %v", l, e)
		}
		samePurge(t, "by label", got, want)
	}
}

// TestPurgeLeavesSiteActs: a Tick, a Start and a Crash stay, whatever stands in their Label.
func TestPurgeLeavesSiteActs(t *testing.T) { // P1.5
	var acts []api.Act
	for _, kind := range []int{api.Tick, api.Start, api.Crash} {
		for place := -1; place <= 4; place++ {
			acts = append(acts, api.Act{Kind: kind, Site: place, Label: place})
		}
	}
	got, e := label.Purge(diamond(), 0, acts)
	if e != api.OK {
		t.Error(e)
	}
	samePurge(t, "acts of sites", got, acts)
}

// TestPurgeLeavesNoLabels: a Label that is none is not one that the label does not dominate.
func TestPurgeLeavesNoLabels(t *testing.T) { // P1.5
	var acts []api.Act
	for _, place := range []int{-1, 4, api.MaxLabels, math.MinInt, math.MaxInt} {
		acts = append(acts, api.Act{Kind: api.Ask, Label: place}, api.Act{Kind: api.Type, Label: place})
	}
	got, e := label.Purge(diamond(), 0, acts)
	if e != api.OK {
		t.Error(e)
	}
	samePurge(t, "no labels", got, acts)
}

func TestPurgeKeep(t *testing.T) { // P1.5
	for _, x := range []struct {
		l          int
		keep, want []int
	}{
		{0, []int{1, 2, 3, 4}, []int{1, 0, 0, 0}},
		{1, []int{1, 2, 3, 4}, []int{1, 2, 0, 0}},
		{2, []int{1, 2, 3, 4}, []int{1, 0, 3, 0}},
		{3, []int{1, 2, 3, 4}, []int{1, 2, 3, 4}},
		{0, nil, nil},
		{0, []int{}, nil},
		{0, []int{7}, []int{7}},
		{2, []int{7, 8}, []int{7, 0}},
		{0, []int{-1, math.MinInt, math.MaxInt, -4, -5, 6}, []int{-1, 0, 0, 0, -5, 6}},
	} {
		acts := []api.Act{{Kind: api.Crash, Site: 1, Keep: x.keep}}
		got, e := label.Purge(diamond(), x.l, acts)
		if e != api.OK {
			t.Error(e)
		}
		samePurge(t, "keep", got, []api.Act{{Kind: api.Crash, Site: 1, Keep: x.want}})
	}
}

// TestPurgeLeavesOtherFields: all else stays, also what the Kind has not; only a Crash's Keep is purged.
func TestPurgeLeavesOtherFields(t *testing.T) { // P1.5
	whole := api.Act{
		Site: -1, To: 77, Label: 1, Pick: -5, Keep: []int{1, 2, 3, 4, 5},
		Call: api.Call{Kind: 9, N: -1, Label: 3, Key: 99, Value: -7}, Line: "force 3 0 1 commit\x00",
	}
	var acts, want []api.Act
	for kind := -1; kind <= 9; kind++ {
		a := whole
		a.Kind = kind
		acts = append(acts, a)
		if kind == api.Crash {
			a.Keep = []int{1, 2, 0, 0, 5}
		}
		want = append(want, a)
	}
	got, e := label.Purge(diamond(), 1, acts)
	if e != api.OK {
		t.Error(e)
	}
	samePurge(t, "other fields", got, want)
}

func TestPurgeRefuses(t *testing.T) { // P1.5
	acts := []api.Act{{Kind: api.Tick}}
	for _, l := range []int{-1, 4, math.MinInt, math.MaxInt} {
		if got, e := label.Purge(diamond(), l, acts); len(got) != 0 || e != api.ErrNone {
			t.Errorf("Purge for %d = %v, %v, want nothing, ErrNone", l, got, e)
		}
	}
	for _, x := range badConfigs() {
		for _, l := range []int{0, -1} {
			if got, e := label.Purge(x.c, l, acts); len(got) != 0 || e != x.want {
				t.Errorf("%s: Purge for %d = %v, %v, want nothing, %v", x.name, l, got, e, x.want)
			}
		}
	}
	for _, none := range [][]api.Act{nil, {}} {
		if got, e := label.Purge(diamond(), 0, none); len(got) != 0 || e != api.OK {
			t.Errorf("Purge of nothing = %v, %v, want nothing, OK", got, e)
		}
	}
}

// TestPurgeSharesNothing: what is handed in stays, spare room too, and no list of the answer is a piece of another one.
func TestPurgeSharesNothing(t *testing.T) { // P1.5
	room := []int{1, 2, 3, 4, 91, 92}
	actRoom := []api.Act{
		{Kind: api.Crash, Keep: room[:4]}, {Kind: api.Ask, Label: 1, Keep: room[:4]},
		{Kind: api.Ask, Keep: room[:4]}, {Kind: api.Crash, Keep: room[:4]}, {Kind: api.Crash, Keep: room[:0]}, {Kind: 93},
	}
	got, _ := label.Purge(diamond(), 0, actRoom[:5])
	again, _ := label.Purge(diamond(), 0, actRoom[:5])
	for i := range got {
		keep := got[i].Keep[:cap(got[i].Keep)]
		for j := range keep {
			keep[j] = -1 - i
		}
	}
	for i := range got {
		for _, k := range got[i].Keep {
			if k != -1-i {
				t.Errorf("the Keep of act %d is shared with another one of the answer: %v", i, got[i].Keep)
			}
		}
	}
	for i := range got[:cap(got)] {
		got[:cap(got)][i] = api.Act{}
	}
	if want := []int{1, 2, 3, 4, 91, 92}; !reflect.DeepEqual(room, want) {
		t.Errorf("a Keep that was handed in was changed: %v", room)
	}
	if actRoom[1].Label != 1 || actRoom[5].Kind != 93 || actRoom[0].Kind != api.Crash {
		t.Errorf("the acts that were handed in were changed: %v", actRoom)
	}
	samePurge(t, "the other answer", again, []api.Act{
		{Kind: api.Crash, Keep: []int{1, 0, 0, 0}}, {Kind: api.Ask, Keep: []int{1, 2, 3, 4}},
		{Kind: api.Crash, Keep: []int{1, 0, 0, 0}}, {Kind: api.Crash},
	})
}
