package net_test

import (
	"math"
	"slices"
	"strconv"
	"testing"

	"reredos/api"
	"reredos/net"
)

func conf() api.Config {
	return api.Config{Sites: 3, Labels: []api.Label{{}, {Level: 1}}, Patience: 3}
}

// withSites: the config with another number of sites.
func withSites(n int) api.Config {
	c := conf()
	c.Sites = n
	return c
}

// badConfigs: each with what label's Check says of it.
func badConfigs() map[api.Errno]api.Config {
	size, twice, bound := conf(), conf(), conf()
	size.Labels = nil
	twice.Labels = []api.Label{{}, {}}
	bound.Patience = 0
	return map[api.Errno]api.Config{api.ErrSize: size, api.ErrTwice: twice, api.ErrRange: bound}
}

// ack: the n'th one from a site to another one.
func ack(from, to, n int) api.Message {
	return api.Message{Kind: api.Ack, From: from, To: to, Txn: api.Txn{N: n}}
}

// acks from a site to another one, numbered from 1 on.
func acks(from, to, count int) []api.Message {
	var l []api.Message
	for i := range count {
		l = append(l, ack(from, to, i+1))
	}
	return l
}

// flying: in each list so many messages.
func flying(c api.Config, count int) [][]api.Message {
	var fly [][]api.Message
	for from := range c.Sites {
		for to := range c.Sites {
			fly = append(fly, acks(from, to, count))
		}
	}
	return fly
}

// kinds: of each kind one message, from a site to another one.
func kinds(from, to int) []api.Message {
	t := api.Txn{N: 5}
	return []api.Message{
		{Kind: api.Read, From: from, To: to, Txn: t, Label: 1, Key: 7, Ask: 3},
		{Kind: api.Write, From: from, To: to, Txn: t, Key: 7, Value: api.MaxValue, Ask: 3},
		{Kind: api.Check, From: from, To: to, Txn: t, Label: 1, Key: 7, Version: api.MaxVersion},
		{Kind: api.Decide, From: from, To: to, Txn: t, Yes: true},
		{Kind: api.Got, From: from, To: to, Txn: t, Label: 1, Key: 7, Value: 9, Version: 2, Ask: api.MaxNumber},
		{Kind: api.Done, From: from, To: to, Txn: t, Key: 7, Ask: 3, Code: api.ErrBusy},
		{Kind: api.Sure, From: from, To: to, Txn: t, Label: 1, Key: 7, Version: 2, Yes: true},
		{Kind: api.Ack, From: from, To: to, Txn: t},
		{Kind: api.Doubts, From: from, To: to, Txn: t},
	}
}

// badMessages: from site 1 to site 2, but for those whose sites are none; each with what CheckMessage says of it, of three sites.
func badMessages() []struct {
	m    api.Message
	want api.Errno
} {
	t := api.Txn{N: 5}
	return []struct {
		m    api.Message
		want api.Errno
	}{
		{api.Message{}, api.ErrKind},
		{api.Message{Kind: -1, From: 1, To: 2, Txn: t}, api.ErrKind},
		{api.Message{Kind: api.Doubts + 1, From: 1, To: 2, Txn: t}, api.ErrKind},
		{api.Message{Kind: api.Ack, From: 1, To: 2}, api.ErrRange},
		{api.Message{Kind: api.Ack, From: 1, To: 2, Txn: api.Txn{Site: 3, N: 1}}, api.ErrRange},
		{api.Message{Kind: api.Read, From: 1, To: 2, Txn: t, Label: 2}, api.ErrRange},
		{api.Message{Kind: api.Read, From: 1, To: 2, Txn: t, Key: api.Keys}, api.ErrRange},
		{api.Message{Kind: api.Done, From: 1, To: 2, Txn: t, Code: api.ErrOver}, api.ErrRange},
		{api.Message{Kind: api.Ack, From: -1, To: 2, Txn: t}, api.ErrRange},
		{api.Message{Kind: api.Ack, From: 1, To: 3, Txn: t}, api.ErrRange},
		{api.Message{Kind: api.Ack, From: 0, To: 5, Txn: t}, api.ErrRange},  // 0*3 + 5 is the place of 1 to 2
		{api.Message{Kind: api.Ack, From: 2, To: -1, Txn: t}, api.ErrRange}, // likewise
		{api.Message{Kind: api.Ack, From: math.MaxInt, To: math.MinInt, Txn: t}, api.ErrRange},
		{api.Message{Kind: api.Ack, From: 1, To: 2, Txn: t, Key: 1}, api.ErrForm},
		{api.Message{Kind: api.Write, From: 1, To: 2, Txn: t, Yes: true}, api.ErrForm},
		{api.Message{Kind: api.Got, From: 1, To: 2, Txn: t, Value: 1, Code: api.ErrFull}, api.ErrForm},
	}
}

// badFlying: what may not be on its way, of three sites.
func badFlying() map[string][][]api.Message {
	l := map[string][][]api.Message{
		"no list":        nil,
		"one list":       make([][]api.Message, 1),
		"a list a site":  make([][]api.Message, 3),
		"none to itself": make([][]api.Message, 6),
		"one too few":    flying(conf(), 1)[:8],
		"one too many":   append(flying(conf(), 1), nil),
		"of four sites":  make([][]api.Message, 16),
		"very many":      make([][]api.Message, 1<<16),
	}
	change := func(name string, f func(fly [][]api.Message)) {
		fly := flying(conf(), 2)
		f(fly)
		l[name] = fly
	}
	change("too many messages in the first list", func(fly [][]api.Message) { fly[0] = acks(0, 0, api.MaxFlying+1) })
	change("too many messages in the last list", func(fly [][]api.Message) { fly[8] = acks(2, 2, api.MaxFlying+1) })
	change("from another site", func(fly [][]api.Message) { fly[5][0].From = 2 })
	change("to another site", func(fly [][]api.Message) { fly[5][1].To = 1 })
	change("the other way round", func(fly [][]api.Message) { fly[5][1].From, fly[5][1].To = 2, 1 })
	change("two lists in each other's place", func(fly [][]api.Message) { fly[1], fly[3] = fly[3], fly[1] })
	change("of the first list, in the last one", func(fly [][]api.Message) { fly[8] = fly[0] })
	for i, x := range badMessages() {
		change("a message that may not be: "+strconv.Itoa(i), func(fly [][]api.Message) { fly[5][1] = x.m })
	}
	return l
}

// same: in the same lists the same messages; a list without elements may be nil or not.
func same(a, b [][]api.Message) bool {
	return slices.EqualFunc(a, b, func(x, y []api.Message) bool { return slices.Equal(x, y) })
}

// TestCheckTakes: P5.1: none, some, and as many as there may be, for each number of sites.
func TestCheckTakes(t *testing.T) {
	for sites := 1; sites <= api.MaxSites; sites++ {
		c := withSites(sites)
		for _, count := range []int{0, 1, 2, api.MaxFlying - 1, api.MaxFlying} {
			if e := net.Check(c, flying(c, count)); e != api.OK {
				t.Errorf("%d sites, %d messages each: %v", sites, count, e)
			}
		}
		all := make([][]api.Message, sites*sites)
		for from := range sites {
			for to := range sites {
				all[from*sites+to] = kinds(from, to)
			}
		}
		if e := net.Check(c, all); e != api.OK {
			t.Errorf("%d sites, each kind: %v", sites, e)
		}
	}
	empty := make([][]api.Message, 9)
	for i := range empty {
		empty[i] = []api.Message{}
	}
	if e := net.Check(conf(), empty); e != api.OK {
		t.Errorf("empty lists: %v", e)
	}
}

// TestCheckRefuses: P5.1.
func TestCheckRefuses(t *testing.T) {
	for name, fly := range badFlying() {
		if e := net.Check(conf(), fly); e != api.ErrState {
			t.Errorf("%s: %v", name, e)
		}
	}
	for sites := 1; sites <= api.MaxSites; sites++ {
		for n := range 20 {
			want := api.ErrState
			if n == sites*sites {
				want = api.OK
			}
			if e := net.Check(withSites(sites), make([][]api.Message, n)); e != want {
				t.Errorf("%d sites, %d lists: %v, want %v", sites, n, e, want)
			}
		}
	}
}

// TestCheckPlaces: P5.1: a message stands in one list alone.
func TestCheckPlaces(t *testing.T) {
	for sites := 1; sites <= api.MaxSites; sites++ {
		for from := range sites {
			for to := range sites {
				for at := range sites * sites {
					fly := make([][]api.Message, sites*sites)
					fly[at] = acks(from, to, 1)
					want := api.ErrState
					if at == from*sites+to {
						want = api.OK
					}
					if e := net.Check(withSites(sites), fly); e != want {
						t.Errorf("%d sites, from %d to %d at %d: %v, want %v", sites, from, to, at, e, want)
					}
				}
			}
		}
	}
}

// TestConfigFirst: P5.1 to P5.3: what is wrong with the config is told ahead of all else.
func TestConfigFirst(t *testing.T) {
	for want, c := range badConfigs() {
		if fly, e := net.Empty(c); e != want || len(fly) != 0 {
			t.Errorf("Empty: %v, %v, want %v", fly, e, want)
		}
		for _, fly := range [][][]api.Message{flying(conf(), 1), nil} {
			if e := net.Check(c, fly); e != want {
				t.Errorf("Check: %v, want %v", e, want)
			}
			if x, e := net.Send(c, fly, []api.Message{{Kind: -1}}); e != want || len(x) != 0 {
				t.Errorf("Send: %v, %v, want %v", x, e, want)
			}
			if x, m, e := net.Take(c, fly, -1, -1, -1, -1); e != want || len(x) != 0 || m != (api.Message{}) {
				t.Errorf("Take: %v, %v, %v, want %v", x, m, e, want)
			}
		}
	}
	for _, sites := range []int{math.MinInt, -1, 0, api.MaxSites + 1, 1 << 32, math.MaxInt} {
		c := withSites(sites)
		if fly, e := net.Empty(c); e != api.ErrRange || len(fly) != 0 {
			t.Errorf("Empty, %d sites: %d lists, %v", sites, len(fly), e)
		}
		if e := net.Check(c, nil); e != api.ErrRange {
			t.Errorf("Check, %d sites: %v", sites, e)
		}
	}
}

// TestEmpty: P5.1.
func TestEmpty(t *testing.T) {
	for sites := 1; sites <= api.MaxSites; sites++ {
		fly, e := net.Empty(withSites(sites))
		if e != api.OK || !same(fly, make([][]api.Message, sites*sites)) {
			t.Errorf("%d sites: %v, %v", sites, fly, e)
		}
		if e := net.Check(withSites(sites), fly); e != api.OK {
			t.Errorf("%d sites: it may not be: %v", sites, e)
		}
	}
}

// TestSend: P5.2: each message stands behind those of its list, in its order, whole.
func TestSend(t *testing.T) {
	for sites := 1; sites <= api.MaxSites; sites++ {
		c := withSites(sites)
		fly, want := flying(c, 2), flying(c, 2)
		var l []api.Message
		for i := range kinds(0, 0) {
			for to := range sites {
				for from := range sites {
					m := kinds(from, to)[i]
					l = append(l, m)
					want[from*sites+to] = append(want[from*sites+to], m)
				}
			}
		}
		if got, e := net.Send(c, fly, l); e != api.OK || !same(got, want) {
			t.Errorf("%d sites: %v, %v", sites, got, e)
		}
	}
}

// TestSendNothing: P5.2: all stays as it was.
func TestSendNothing(t *testing.T) {
	for _, count := range []int{0, 3, api.MaxFlying} {
		for _, l := range [][]api.Message{nil, {}} {
			if got, e := net.Send(conf(), flying(conf(), count), l); e != api.OK || !same(got, flying(conf(), count)) {
				t.Errorf("%d messages each: %v, %v", count, got, e)
			}
		}
	}
}

// TestSendLoses: P5.2: where there is no room a message is lost, and only there.
func TestSendLoses(t *testing.T) {
	for ahead := api.MaxFlying - 3; ahead <= api.MaxFlying; ahead++ {
		fly, want := flying(conf(), 1), flying(conf(), 1)
		fly[5] = acks(1, 2, ahead)
		want[5] = acks(1, 2, ahead)
		var l []api.Message
		for i := range 5 {
			l = append(l, ack(1, 2, 100+i), ack(2, 1, 100+i))
			want[7] = append(want[7], ack(2, 1, 100+i))
			if len(want[5]) < api.MaxFlying {
				want[5] = append(want[5], ack(1, 2, 100+i))
			}
		}
		if got, e := net.Send(conf(), fly, l); e != api.OK || !same(got, want) {
			t.Errorf("%d ahead: %v, %v", ahead, got, e)
		}
	}
	many := acks(2, 0, 10000)
	want := make([][]api.Message, 9)
	want[6] = many[:api.MaxFlying]
	if got, e := net.Send(conf(), make([][]api.Message, 9), many); e != api.OK || !same(got, want) {
		t.Errorf("very many: %v, %v", got, e)
	}
}

// TestSendRefuses: P5.2: what is on its way tells ahead of what is sent; of that the first one that may not be.
func TestSendRefuses(t *testing.T) {
	for name, fly := range badFlying() {
		for _, l := range [][]api.Message{nil, acks(0, 0, 1), {{Kind: -1}}} {
			if got, e := net.Send(conf(), fly, l); e != api.ErrState || len(got) != 0 {
				t.Errorf("%s: %v, %v", name, got, e)
			}
		}
	}
	for _, count := range []int{0, 1, api.MaxFlying} {
		for _, x := range badMessages() {
			for _, y := range badMessages() {
				l := []api.Message{ack(0, 1, 1), x.m, ack(1, 2, 1), y.m}
				if got, e := net.Send(conf(), flying(conf(), count), l); e != x.want || len(got) != 0 {
					t.Errorf("%v: %v, %v, want %v", l, got, e, x.want)
				}
			}
			if got, e := net.Send(conf(), flying(conf(), count), append(acks(1, 2, 40), x.m)); e != x.want || len(got) != 0 {
				t.Errorf("behind many: %v: %v, %v, want %v", x.m, got, e, x.want)
			}
		}
	}
}
