package tape_test

import (
	"bytes"
	"math"
	"reflect"
	"testing"

	"reredos/api"
	"reredos/tape"
)

func conf() api.Config {
	return api.Config{Sites: 3, Labels: []api.Label{{}, {Level: 1}}, Patience: 3}
}

// badConfigs: each with what label's Check says of it.
func badConfigs() map[api.Errno]api.Config {
	size, twice, bound := conf(), conf(), conf()
	size.Labels = nil
	twice.Labels = []api.Label{{}, {}}
	bound.Patience = 0
	return map[api.Errno]api.Config{api.ErrSize: size, api.ErrTwice: twice, api.ErrRange: bound}
}

// badTapes: too many bytes, or a Synced that is outside them.
func badTapes() []api.Tape {
	l := []api.Tape{
		{Synced: 1},
		{Synced: -1},
		{Data: []byte{}, Synced: 1},
		{Data: make([]byte, api.MaxTape+1)},
		{Data: make([]byte, api.MaxTape+1), Synced: api.MaxTape},
		{Data: make([]byte, 2*api.MaxTape), Synced: 5},
	}
	for _, n := range []int{-1, 4, math.MinInt, math.MaxInt} {
		l = append(l, api.Tape{Data: []byte{1, 2, 3}, Synced: n})
	}
	return l
}

type recordCase struct {
	r api.Record
	b []byte // as it stands on a tape
}

func records() []recordCase {
	t := api.Txn{Site: 2, N: 0x012345}
	return []recordCase{
		{api.Record{Kind: api.Began, Txn: t}, []byte{5, 5, 2, 1, 0x23, 0x45}},
		{api.Record{Kind: api.Prepared, Txn: t, Key: 7, Value: 0x01020304, Ask: 0x0a0b0c}, []byte{13, 1, 2, 1, 0x23, 0x45, 7, 1, 2, 3, 4, 0x0a, 0x0b, 0x0c}},
		{api.Record{Kind: api.Committed, Txn: t, Sites: []int{0, 2}}, []byte{8, 3, 2, 1, 0x23, 0x45, 2, 0, 2}},
		{api.Record{Kind: api.Committed, Txn: t}, []byte{6, 3, 2, 1, 0x23, 0x45, 0}},
		{api.Record{Kind: api.Applied, Txn: t, Yes: true}, []byte{6, 2, 2, 1, 0x23, 0x45, 1}},
		{api.Record{Kind: api.Forced, Txn: t}, []byte{6, 6, 2, 1, 0x23, 0x45, 0}},
		{api.Record{Kind: api.Ended, Txn: t}, []byte{5, 4, 2, 1, 0x23, 0x45}},
	}
}

// whole: all of records on one tape, and where each of them ends.
func whole() (data []byte, ends []int) {
	for _, x := range records() {
		data = append(data, x.b...)
		ends = append(ends, len(data))
	}
	return data, ends
}

func sameTape(a, b api.Tape) bool {
	return bytes.Equal(a.Data, b.Data) && a.Synced == b.Synced
}

// sameRecords: are these the first n of records? A list without elements may be nil or not.
func sameRecords(l []api.Record, n int) bool {
	if len(l) != n {
		return false
	}
	for i, r := range l {
		want := records()[i].r
		if len(r.Sites) == 0 && len(want.Sites) == 0 {
			r.Sites, want.Sites = nil, nil
		}
		if !reflect.DeepEqual(r, want) {
			return false
		}
	}
	return true
}

// TestState: P3.1: each call refuses such a tape, ahead of all else that is wrong.
func TestState(t *testing.T) {
	for _, x := range badTapes() {
		for _, c := range []api.Config{conf(), {}} {
			for _, r := range []api.Record{{Kind: api.Began, Txn: api.Txn{N: 1}}, {}} {
				if y, e := tape.Append(c, x, r); e != api.ErrState || !sameTape(y, api.Tape{}) {
					t.Errorf("Append: %d bytes, %d synced: %v, %v", len(x.Data), x.Synced, y, e)
				}
			}
			if l, y, e := tape.Recover(c, x); e != api.ErrState || !sameTape(y, api.Tape{}) || len(l) != 0 {
				t.Errorf("Recover: %d bytes, %d synced: %v, %v, %v", len(x.Data), x.Synced, l, y, e)
			}
		}
		if n, e := tape.Room(x); e != api.ErrState || n != 0 {
			t.Errorf("Room: %d bytes, %d synced: %v, %v", len(x.Data), x.Synced, n, e)
		}
		if y, e := tape.Sync(x); e != api.ErrState || !sameTape(y, api.Tape{}) {
			t.Errorf("Sync: %d bytes, %d synced: %v, %v", len(x.Data), x.Synced, y, e)
		}
		for _, keep := range []int{0, 1, -1} {
			if y, e := tape.Crash(x, keep); e != api.ErrState || !sameTape(y, api.Tape{}) {
				t.Errorf("Crash: %d bytes, %d synced: %v, %v", len(x.Data), x.Synced, y, e)
			}
		}
	}
}

// TestGreatest: P3.1: a tape that is full, or empty, may be, with all synced or nothing.
func TestGreatest(t *testing.T) {
	for _, n := range []int{0, api.MaxTape} {
		for _, synced := range []int{0, n} {
			x := api.Tape{Data: make([]byte, n), Synced: synced}
			if room, e := tape.Room(x); e != api.OK || room != api.MaxTape-n {
				t.Errorf("Room of %d bytes: %d, %v", n, room, e)
			}
			if y, e := tape.Sync(x); e != api.OK || len(y.Data) != n || y.Synced != n {
				t.Errorf("Sync of %d bytes: %d, %d, %v", n, len(y.Data), y.Synced, e)
			}
			if y, e := tape.Crash(x, 0); e != api.OK || len(y.Data) != synced || y.Synced != synced {
				t.Errorf("Crash of %d bytes, %d synced: %d, %d, %v", n, synced, len(y.Data), y.Synced, e)
			}
			if l, y, e := tape.Recover(conf(), x); e != api.OK || len(l) != 0 || !sameTape(y, api.Tape{}) {
				t.Errorf("Recover of %d bytes: %v, %v, %v", n, l, y, e)
			}
		}
	}
}

// TestAppend: P3.2: a length and the bytes, behind whatever is there; Synced stays.
func TestAppend(t *testing.T) {
	for _, ahead := range [][]byte{nil, {}, {9}, {0, 0, 0}, {200, 1, 2}} {
		for synced := range len(ahead) + 1 {
			x := api.Tape{Data: ahead, Synced: synced}
			want := append([]byte(nil), ahead...)
			for _, r := range records() {
				want = append(want, r.b...)
				y, e := tape.Append(conf(), x, r.r)
				if e != api.OK || !sameTape(y, api.Tape{Data: want, Synced: synced}) {
					t.Errorf("%v: %v, %v, want %v", x, y, e, want)
				}
				x = y
			}
		}
	}
}

// TestAppendRefuses: P3.2: what EncodeRecord refuses, whether there is room or not.
func TestAppendRefuses(t *testing.T) {
	began := api.Record{Kind: api.Began, Txn: api.Txn{N: 1}}
	refused := func(c api.Config, x api.Tape, r api.Record, want api.Errno) {
		t.Helper()
		if y, e := tape.Append(c, x, r); e != want || !sameTape(y, api.Tape{}) {
			t.Errorf("%v: %v, %v, want %v", r, y, e, want)
		}
	}
	for _, x := range []api.Tape{{}, {Data: make([]byte, api.MaxTape), Synced: 7}} {
		for want, c := range badConfigs() {
			refused(c, x, began, want)
			refused(c, x, api.Record{}, want)
		}
		refused(conf(), x, api.Record{Txn: api.Txn{N: 1}}, api.ErrKind)
		refused(conf(), x, api.Record{Kind: api.Forced + 1, Txn: api.Txn{N: 1}}, api.ErrKind)
		refused(conf(), x, api.Record{Kind: api.Began}, api.ErrRange)
		refused(conf(), x, api.Record{Kind: api.Began, Txn: api.Txn{Site: 3, N: 1}}, api.ErrRange)
		refused(conf(), x, api.Record{Kind: api.Committed, Txn: api.Txn{N: 1}, Sites: make([]int, 300)}, api.ErrRange)
		refused(conf(), x, api.Record{Kind: api.Began, Txn: api.Txn{N: 1}, Yes: true}, api.ErrForm)
	}
}

// TestAppendFull: P3.2: the last byte of a tape may be written, and none behind it.
func TestAppendFull(t *testing.T) {
	for _, r := range records() {
		for more := -2; more <= len(r.b); more++ {
			n := api.MaxTape - len(r.b) + more
			x := api.Tape{Data: make([]byte, n), Synced: 3}
			y, e := tape.Append(conf(), x, r.r)
			if more > 0 {
				if e != api.ErrFull || !sameTape(y, api.Tape{}) {
					t.Errorf("%v behind %d bytes: %d bytes, %v", r.r, n, len(y.Data), e)
				}
			} else if e != api.OK || len(y.Data) != n+len(r.b) || y.Synced != 3 || !bytes.Equal(y.Data[n:], r.b) {
				t.Errorf("%v behind %d bytes: %d bytes, %v", r.r, n, len(y.Data), e)
			}
		}
	}
}

// TestRoom: P3.3.
func TestRoom(t *testing.T) {
	for _, n := range []int{0, 1, 2, api.MaxTape - api.RoomBegin, api.MaxTape - 1, api.MaxTape} {
		for _, synced := range []int{0, n / 2, n} {
			if room, e := tape.Room(api.Tape{Data: make([]byte, n, n+9), Synced: synced}); e != api.OK || room != api.MaxTape-n {
				t.Errorf("%d bytes: %d, %v", n, room, e)
			}
		}
	}
}

// TestSync: P3.4.
func TestSync(t *testing.T) {
	for _, data := range [][]byte{nil, {}, {9}, {1, 2, 3, 4}} {
		for synced := range len(data) + 1 {
			y, e := tape.Sync(api.Tape{Data: data, Synced: synced})
			if e != api.OK || !sameTape(y, api.Tape{Data: data, Synced: len(data)}) {
				t.Errorf("%v, %d synced: %v, %v", data, synced, y, e)
			}
		}
	}
}

// TestCrash: P3.5: also where more is to be kept than there is.
func TestCrash(t *testing.T) {
	data := []byte{11, 12, 13, 14, 15}
	for n := range len(data) + 1 {
		for synced := range n + 1 {
			for _, keep := range []int{0, 1, 2, 3, 4, 5, 6, 1 << 40, math.MaxInt - 1, math.MaxInt} {
				left := n
				if keep < n-synced {
					left = synced + keep
				}
				y, e := tape.Crash(api.Tape{Data: data[:n], Synced: synced}, keep)
				if e != api.OK || !sameTape(y, api.Tape{Data: data[:left], Synced: left}) {
					t.Errorf("%v, %d synced, %d kept: %v, %v", data[:n], synced, keep, y, e)
				}
			}
			for _, keep := range []int{-1, -2, math.MinInt} {
				if y, e := tape.Crash(api.Tape{Data: data[:n], Synced: synced}, keep); e != api.ErrRange || !sameTape(y, api.Tape{}) {
					t.Errorf("%v, %d kept: %v, %v", data[:n], keep, y, e)
				}
			}
		}
	}
}

// TestRecoverConfig: P3.6: the config is refused also where nothing is on the tape.
func TestRecoverConfig(t *testing.T) {
	data, _ := whole()
	for want, c := range badConfigs() {
		for _, x := range []api.Tape{{}, {Data: data, Synced: 3}, {Data: []byte{0}}} {
			if l, y, e := tape.Recover(c, x); e != want || len(l) != 0 || !sameTape(y, api.Tape{}) {
				t.Errorf("%v: %v, %v, %v, want %v", x, l, y, e, want)
			}
		}
	}
}

// TestRecoverCutOff: P3.6: a tape that ends anywhere, with any number of bytes synced.
func TestRecoverCutOff(t *testing.T) {
	data, ends := whole()
	for n := range len(data) + 1 {
		count, left := 0, 0
		for count < len(ends) && ends[count] <= n {
			left = ends[count]
			count++
		}
		for synced := range n + 1 {
			l, y, e := tape.Recover(conf(), api.Tape{Data: data[:n], Synced: synced})
			if e != api.OK || !sameRecords(l, count) || !sameTape(y, api.Tape{Data: data[:left], Synced: min(synced, left)}) {
				t.Errorf("%d bytes, %d synced: %v, %v, %v", n, synced, l, y, e)
			}
		}
	}
}

// TestRecoverSpoilt: P3.6: what is behind a place where no record stands is gone, though whole records follow.
func TestRecoverSpoilt(t *testing.T) {
	data, ends := whole()
	for _, bad := range [][]byte{
		{0},                      // no bytes
		{1, 5},                   // they end too early
		{4, 5, 0, 0, 0},          // likewise
		{6, 5, 0, 0, 0, 1, 0},    // too many
		{5, 0, 0, 0, 0, 1},       // no such kind
		{5, 7, 0, 0, 0, 1},       // likewise
		{5, 5, 0, 0, 0, 0},       // no transaction
		{5, 5, 3, 0, 0, 1},       // no site
		{6, 2, 0, 0, 0, 1, 2},    // neither true nor false
		{7, 3, 0, 0, 0, 1, 1, 3}, // no site
		append([]byte{255}, make([]byte, 255)...),
	} {
		for i, end := range append([]int{0}, ends...) {
			x := append(append([]byte(nil), data[:end]...), bad...)
			x = append(x, data...)
			for _, synced := range []int{0, end, end + 1, len(x)} {
				l, y, e := tape.Recover(conf(), api.Tape{Data: x, Synced: synced})
				if e != api.OK || !sameRecords(l, i) || !sameTape(y, api.Tape{Data: data[:end], Synced: min(synced, end)}) {
					t.Errorf("%v behind %d bytes: %v, %v, %v", bad, end, l, y, e)
				}
			}
		}
	}
}

// TestRecoverFull: P3.6: the greatest length there is, and a tape that is full of records.
func TestRecoverFull(t *testing.T) {
	if l, y, e := tape.Recover(conf(), api.Tape{Data: []byte{255}, Synced: 1}); e != api.OK || len(l) != 0 || !sameTape(y, api.Tape{}) {
		t.Errorf("%v, %v, %v", l, y, e)
	}
	began := records()[0].b
	n := api.MaxTape / len(began)
	l, y, e := tape.Recover(conf(), api.Tape{Data: bytes.Repeat(began, n), Synced: 1})
	if e != api.OK || len(l) != n || len(y.Data) != n*len(began) || y.Synced != 1 {
		t.Errorf("%d records, %d bytes, %d synced, %v", len(l), len(y.Data), y.Synced, e)
	}
}

// TestSyncedStays: what comes of it: behind every crash the records that were synced are recovered, and none that was not written.
func TestSyncedStays(t *testing.T) {
	for when := range len(records()) + 1 {
		var x api.Tape
		for i, r := range records() {
			if i == when {
				x, _ = tape.Sync(x)
			}
			x, _ = tape.Append(conf(), x, r.r)
		}
		if when == len(records()) {
			x, _ = tape.Sync(x)
		}
		for keep := range len(x.Data) + 2 {
			y, e := tape.Crash(x, keep)
			if e != api.OK {
				t.Fatalf("%d kept: %v", keep, e)
			}
			l, z, e := tape.Recover(conf(), y)
			if e != api.OK || len(l) < when || !sameRecords(l, len(l)) || z.Synced != len(z.Data) {
				t.Errorf("synced behind %d records, %d bytes kept: %v, %v", when, keep, l, e)
			}
			if all := x.Synced+keep >= len(x.Data); all && len(l) != len(records()) {
				t.Errorf("synced behind %d records, all kept: %v", when, l)
			}
		}
	}
}
