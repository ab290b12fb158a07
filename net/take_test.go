package net_test

import (
	"math"
	"testing"

	"reredos/api"
	"reredos/net"
)

// without: a list without the message at a place, in other memory.
func without(l []api.Message, i int) []api.Message {
	return append(append([]api.Message(nil), l[:i]...), l[i+1:]...)
}

// TestTakeOut: P5.3: by a Deliver or a Drop it is on its way no more; all others are, in their order.
func TestTakeOut(t *testing.T) {
	for sites := 1; sites <= api.MaxSites; sites++ {
		c := withSites(sites)
		for _, kind := range []int{api.Deliver, api.Drop} {
			for at := range sites * sites {
				for pick := range 9 {
					from, to := at/sites, at%sites
					fly, want := flying(c, 2), flying(c, 2)
					fly[at] = kinds(from, to)
					want[at] = without(kinds(from, to), pick)
					got, m, e := net.Take(c, fly, from, to, pick, kind)
					if e != api.OK || m != kinds(from, to)[pick] || !same(got, want) {
						t.Errorf("%d sites, from %d to %d, %d by %d: %v, %v, %v", sites, from, to, pick, kind, got, m, e)
					}
				}
			}
		}
	}
}

// TestTakeCopy: P5.3: by a Copy it stays where it is, and stands behind all, too.
func TestTakeCopy(t *testing.T) {
	for sites := 1; sites <= api.MaxSites; sites++ {
		c := withSites(sites)
		for at := range sites * sites {
			for pick := range 9 {
				from, to := at/sites, at%sites
				fly, want := flying(c, 2), flying(c, 2)
				m := kinds(from, to)[pick]
				fly[at] = kinds(from, to)
				want[at] = append(kinds(from, to), m)
				got, x, e := net.Take(c, fly, from, to, pick, api.Copy)
				if e != api.OK || x != m || !same(got, want) {
					t.Errorf("%d sites, from %d to %d, %d: %v, %v, %v", sites, from, to, pick, got, x, e)
				}
			}
		}
	}
}

// TestTakeModulo: P5.3: a pick beyond the last message begins anew at the first one.
func TestTakeModulo(t *testing.T) {
	for count := 1; count <= 5; count++ {
		for _, pick := range []int{0, 1, 2, 3, 4, 5, 6, 7, 29, 30, 31, api.MaxPick, 1 << 40, math.MaxInt - 1, math.MaxInt} {
			for _, kind := range []int{api.Deliver, api.Drop, api.Copy} {
				fly, want := flying(conf(), count), flying(conf(), count)
				i := pick % count
				if kind == api.Copy {
					want[5] = append(want[5], want[5][i])
				} else {
					want[5] = without(want[5], i)
				}
				got, m, e := net.Take(conf(), fly, 1, 2, pick, kind)
				if e != api.OK || m != ack(1, 2, i+1) || !same(got, want) {
					t.Errorf("%d of %d by %d: %v, %v, %v", pick, count, kind, got, m, e)
				}
			}
		}
	}
}

// TestTakeFull: P5.3: only a Copy needs room, in its own list; the last place may be filled.
func TestTakeFull(t *testing.T) {
	full := flying(conf(), api.MaxFlying)
	for pick := range api.MaxFlying + 1 {
		if got, m, e := net.Take(conf(), full, 1, 2, pick, api.Copy); e != api.ErrFull || len(got) != 0 || m != (api.Message{}) {
			t.Errorf("Copy of %d: %v, %v, %v", pick, got, m, e)
		}
		for _, kind := range []int{api.Deliver, api.Drop} {
			got, m, e := net.Take(conf(), full, 1, 2, pick, kind)
			if e != api.OK || len(got[5]) != api.MaxFlying-1 || m != full[5][pick%api.MaxFlying] {
				t.Errorf("%d of %d: %v, %v, %v", kind, pick, got, m, e)
			}
		}
	}
	full[5] = full[5][:api.MaxFlying-1]
	got, m, e := net.Take(conf(), full, 1, 2, 3, api.Copy)
	if e != api.OK || m != full[5][3] || len(got[5]) != api.MaxFlying || got[5][api.MaxFlying-1] != m {
		t.Errorf("the last place: %v, %v, %v", got, m, e)
	}
}

// refused holds what Take answers against an error, with which all else is empty.
func refused(t *testing.T, fly [][]api.Message, from, to, pick, kind int, want api.Errno) {
	t.Helper()
	if got, m, e := net.Take(conf(), fly, from, to, pick, kind); e != want || len(got) != 0 || m != (api.Message{}) {
		t.Errorf("from %d to %d, pick %d, kind %d: %v, %v, %v, want %v", from, to, pick, kind, got, m, e, want)
	}
}

// TestTakeState: P5.3: what Check refuses tells ahead of kinds, bounds and all else.
func TestTakeState(t *testing.T) {
	for _, fly := range badFlying() {
		for _, kind := range []int{api.Deliver, api.Drop, api.Copy, api.Tick, -1} {
			for _, site := range []int{0, 2, 3, -1} {
				refused(t, fly, site, site, 0, kind, api.ErrState)
				refused(t, fly, 0, site, -1, kind, api.ErrState)
			}
		}
	}
}

// TestTakeKind: P5.3: an act of another kind takes nothing, also where all else is wrong.
func TestTakeKind(t *testing.T) {
	for _, kind := range []int{math.MinInt, -1, 0, api.Ask, api.Tick, api.Crash, api.Start, api.Type, api.Type + 1, math.MaxInt} {
		for _, count := range []int{0, 2, api.MaxFlying} {
			refused(t, flying(conf(), count), 1, 2, 0, kind, api.ErrKind)
			refused(t, flying(conf(), count), -1, 2, 0, kind, api.ErrKind)
			refused(t, flying(conf(), count), 1, 3, 0, kind, api.ErrKind)
			refused(t, flying(conf(), count), 1, 2, -1, kind, api.ErrKind)
		}
	}
}

// TestTakeRange: P5.3: ahead of whether there is a message, or room.
func TestTakeRange(t *testing.T) {
	for _, kind := range []int{api.Deliver, api.Drop, api.Copy} {
		for _, count := range []int{0, 2, api.MaxFlying} {
			fly := flying(conf(), count)
			for _, site := range []int{math.MinInt, -3, -1, 3, 4, 1 << 62, math.MaxInt} {
				for other := range 3 {
					refused(t, fly, site, other, 0, kind, api.ErrRange)
					refused(t, fly, other, site, 0, kind, api.ErrRange)
				}
				refused(t, fly, site, site, 0, kind, api.ErrRange)
			}
			for _, pick := range []int{math.MinInt, -api.MaxFlying, -2, -1} {
				refused(t, fly, 1, 2, pick, kind, api.ErrRange)
			}
		}
	}
}

// TestTakeNone: P5.3: what is on its way between other sites does not count.
func TestTakeNone(t *testing.T) {
	for _, kind := range []int{api.Deliver, api.Drop, api.Copy} {
		for _, count := range []int{0, 2, api.MaxFlying} {
			for _, none := range [][]api.Message{nil, {}} {
				fly := flying(conf(), count)
				fly[5] = none
				for _, pick := range []int{0, 1, math.MaxInt} {
					refused(t, fly, 1, 2, pick, kind, api.ErrNone)
				}
			}
		}
	}
}
