package tape_test

import (
	"bytes"
	"testing"

	"reredos/api"
	"reredos/tape"
)

// scribble over a list, and over its spare room.
func scribble(b []byte) {
	b = b[:cap(b)]
	for i := range b {
		b[i] ^= 0xff
	}
}

// TestSharesNothing: what is handed in stays, spare room too; no answer shares memory with it, or with another answer.
func TestSharesNothing(t *testing.T) {
	r := records()[0].r
	calls := map[string]func(x api.Tape) api.Tape{
		"Append":      func(x api.Tape) api.Tape { y, _ := tape.Append(conf(), x, r); return y },
		"Sync":        func(x api.Tape) api.Tape { y, _ := tape.Sync(x); return y },
		"Crash":       func(x api.Tape) api.Tape { y, _ := tape.Crash(x, 1); return y },
		"Crash (all)": func(x api.Tape) api.Tape { y, _ := tape.Crash(x, len(x.Data)); return y },
		"Recover":     func(x api.Tape) api.Tape { _, y, _ := tape.Recover(conf(), x); return y },
	}
	data, ends := whole()
	for name, call := range calls {
		for _, n := range []int{0, 1, 2, ends[0], ends[1] + 1, len(data)} {
			room := append(append([]byte(nil), data...), make([]byte, 64)...)
			was := append([]byte(nil), room...)
			x := api.Tape{Data: room[:n], Synced: n / 2}
			one, other := call(x), call(x)
			want := append([]byte(nil), other.Data...)
			scribble(one.Data)
			if !bytes.Equal(room, was) {
				t.Errorf("%s of %d bytes: what was handed in was changed: %v", name, n, room)
			}
			if !bytes.Equal(other.Data, want) {
				t.Errorf("%s of %d bytes: two answers share memory: %v", name, n, other.Data)
			}
			scribble(room)
			if !bytes.Equal(other.Data, want) {
				t.Errorf("%s of %d bytes: the answer shares memory with what was handed in: %v", name, n, other.Data)
			}
		}
	}
}

// TestCutLeavesNothing: what was cut off a tape does not stand in its spare room.
func TestCutLeavesNothing(t *testing.T) {
	x := api.Tape{Data: bytes.Repeat([]byte{255}, 100), Synced: 20}
	crashed, _ := tape.Crash(x, 3)
	_, recovered, _ := tape.Recover(conf(), x)
	synced, _ := tape.Sync(api.Tape{Data: x.Data[:20], Synced: 20})
	for i, y := range []api.Tape{crashed, recovered, synced} {
		if room := y.Data[:cap(y.Data)]; bytes.IndexByte(room[len(y.Data):], 255) >= 0 {
			t.Errorf("answer %d: %v", i, room)
		}
	}
}

// TestRecordsShareNothing: the lists of two records are not pieces of one.
func TestRecordsShareNothing(t *testing.T) {
	b := records()[2].b
	data := append(append([]byte(nil), b...), b...)
	l, y, e := tape.Recover(conf(), api.Tape{Data: data})
	if e != api.OK || len(l) != 2 {
		t.Fatal(l, e)
	}
	for i, r := range l {
		sites := r.Sites[:cap(r.Sites)]
		for j := range sites {
			sites[j] = -1 - i
		}
	}
	for i, r := range l {
		for _, n := range r.Sites {
			if n != -1-i {
				t.Errorf("the Sites of record %d are shared: %v", i, r.Sites)
			}
		}
	}
	if !bytes.Equal(data, y.Data) || !bytes.Equal(data[:len(b)], b) {
		t.Errorf("the bytes were changed: %v, %v", data, y.Data)
	}
}

// TestAppendKeepsNothing: a record's Sites may be changed behind the call.
func TestAppendKeepsNothing(t *testing.T) {
	sites := []int{0, 2, 77}
	y, e := tape.Append(conf(), api.Tape{}, api.Record{Kind: api.Committed, Txn: api.Txn{N: 1}, Sites: sites[:2]})
	if e != api.OK || sites[0] != 0 || sites[1] != 2 || sites[2] != 77 {
		t.Fatal(y, e, sites)
	}
	sites[0] = 1
	if want := []byte{8, 3, 0, 0, 0, 1, 2, 0, 2}; !bytes.Equal(y.Data, want) {
		t.Errorf("%v, want %v", y.Data, want)
	}
}
