package wire_test

import (
	"bytes"
	"reflect"
	"testing"

	"reredos/api"
	"reredos/wire"
)

// same: a list without elements may be nil or not.
func same(a, b api.Record) bool {
	if len(a.Sites) == 0 && len(b.Sites) == 0 {
		a.Sites, b.Sites = nil, nil
	}
	return reflect.DeepEqual(a, b)
}

// TestDecode: P2.6: what was encoded comes back, and the bytes stay as they are.
func TestDecode(t *testing.T) {
	for _, x := range messages() {
		b := append([]byte(nil), x.b...)
		if m, e := wire.DecodeMessage(conf(), b); e != api.OK || m != x.m {
			t.Errorf("%v: %v, %v, want %v", x.b, m, e, x.m)
		}
		if !bytes.Equal(b, x.b) {
			t.Errorf("%v became %v", x.b, b)
		}
	}
	for _, x := range records() {
		b := append([]byte(nil), x.b...)
		if r, e := wire.DecodeRecord(conf(), b); e != api.OK || !same(r, x.r) {
			t.Errorf("%v: %v, %v, want %v", x.b, r, e, x.r)
		}
		if !bytes.Equal(b, x.b) {
			t.Errorf("%v became %v", x.b, b)
		}
	}
}

func refusedBytes(t *testing.T, b []byte, want api.Errno) {
	t.Helper()
	if m, e := wire.DecodeMessage(conf(), b); e != want || m != (api.Message{}) {
		t.Errorf("message %v: %v, %v, want %v", b, m, e, want)
	}
}

func refusedRecordBytes(t *testing.T, b []byte, want api.Errno) {
	t.Helper()
	if r, e := wire.DecodeRecord(conf(), b); e != want || !same(r, api.Record{}) {
		t.Errorf("record %v: %v, %v, want %v", b, r, e, want)
	}
}

// TestDecodeLength: P2.6: one byte too few, or too many; a wrong number does not hide either.
func TestDecodeLength(t *testing.T) {
	for _, x := range messages() {
		for n := range x.b {
			refusedBytes(t, x.b[:n:n], api.ErrShort)
		}
		refusedBytes(t, append(append([]byte(nil), x.b...), 0), api.ErrForm)
		wrong := append([]byte(nil), x.b...)
		wrong[1] = 200
		refusedBytes(t, wrong, api.ErrRange)
		refusedBytes(t, append(wrong, 1), api.ErrForm)
		refusedBytes(t, wrong[:len(wrong)-1], api.ErrShort)
	}
	for _, x := range records() {
		for n := range x.b {
			refusedRecordBytes(t, x.b[:n:n], api.ErrShort)
		}
		refusedRecordBytes(t, append(append([]byte(nil), x.b...), 0), api.ErrForm)
		wrong := append([]byte(nil), x.b...)
		wrong[1] = 200
		refusedRecordBytes(t, wrong, api.ErrRange)
		refusedRecordBytes(t, append(wrong, 1), api.ErrForm)
		refusedRecordBytes(t, wrong[:len(wrong)-1], api.ErrShort)
	}
	refusedBytes(t, nil, api.ErrShort)
	refusedRecordBytes(t, nil, api.ErrShort)
}

// TestDecodeKind: P2.6: the kind is the first byte: it tells ahead of bytes that are missing, or too many.
func TestDecodeKind(t *testing.T) {
	for _, rest := range [][]byte{nil, {0, 0, 0, 0, 0, 1}, make([]byte, 40)} {
		for _, kind := range []byte{0, 10, 11, 255} {
			refusedBytes(t, append([]byte{kind}, rest...), api.ErrKind)
		}
		for _, kind := range []byte{0, 7, 8, 255} {
			refusedRecordBytes(t, append([]byte{kind}, rest...), api.ErrKind)
		}
	}
}

// TestDecodeTruth: P2.6: neither 0 nor 1.
func TestDecodeTruth(t *testing.T) {
	for _, yes := range []byte{2, 128, 255} {
		refusedBytes(t, []byte{4, 0, 0, 0, 0, 0, 1, yes}, api.ErrForm)
		refusedBytes(t, []byte{7, 0, 0, 0, 0, 0, 1, 0, 0, 0, 0, 0, yes}, api.ErrForm)
		refusedBytes(t, []byte{4, 9, 0, 0, 0, 0, 1, yes}, api.ErrForm)
		refusedRecordBytes(t, []byte{2, 0, 0, 0, 1, yes}, api.ErrForm)
		refusedRecordBytes(t, []byte{6, 9, 0, 0, 1, yes}, api.ErrForm)
	}
}

// TestDecodeCheck: P2.6: what may not be is refused at last.
func TestDecodeCheck(t *testing.T) {
	refusedBytes(t, []byte{8, 0, 0, 0, 0, 0, 0}, api.ErrRange)
	refusedBytes(t, []byte{8, 0, 0, 0, 0x10, 0, 1}, api.ErrRange)
	refusedBytes(t, []byte{1, 0, 0, 0, 0, 0, 1, 2, 0, 0, 0, 1}, api.ErrRange)
	refusedBytes(t, []byte{1, 0, 0, 0, 0, 0, 1, 0, 8, 0, 0, 1}, api.ErrRange)
	refusedBytes(t, []byte{2, 0, 0, 0, 0, 0, 1, 0, 0x40, 0, 0, 1, 0, 0, 1}, api.ErrRange)
	refusedBytes(t, []byte{2, 0, 0, 0, 0, 0, 1, 0, 0xff, 0xff, 0xff, 0xff, 0, 0, 1}, api.ErrRange)
	refusedBytes(t, []byte{6, 0, 0, 0, 0, 0, 1, 0, 0, 0, 1, 7}, api.ErrRange)
	refusedBytes(t, []byte{5, 0, 0, 0, 0, 0, 1, 0, 0, 0, 0, 0, 1, 0, 0, 0, 0, 0, 1, 8}, api.ErrForm)
	refusedRecordBytes(t, []byte{3, 0, 0, 0, 1, 2, 1, 1}, api.ErrRange)
	refusedRecordBytes(t, []byte{3, 0, 0, 0, 1, 1, 3}, api.ErrRange)
	many := append([]byte{3, 0, 0, 0, 1, 255}, make([]byte, 255)...)
	refusedRecordBytes(t, many, api.ErrRange)
	refusedRecordBytes(t, many[:len(many)-1], api.ErrShort)
}

// TestDecodeAnything: whatever the bytes are, what is taken is encoded as them again.
func TestDecodeAnything(t *testing.T) {
	d := uint64(1)
	draw := func(most int) int {
		d = d*6364136223846793005 + 1442695040888963407
		return int(d>>33) % most
	}
	taken := 0
	for range 200000 {
		b := make([]byte, draw(16))
		for i := range b {
			b[i] = byte([]int{0, 0, 0, 1, 1, 2, draw(256)}[draw(7)])
		}
		if len(b) > 0 {
			b[0] = byte(draw(12))
		}
		if m, e := wire.DecodeMessage(conf(), b); e == api.OK {
			taken++
			if x, e := wire.EncodeMessage(conf(), m); e != api.OK || !bytes.Equal(x, b) {
				t.Fatalf("%v: %v, again %v, %v", b, m, x, e)
			}
		}
		if r, e := wire.DecodeRecord(conf(), b); e == api.OK {
			taken++
			if x, e := wire.EncodeRecord(conf(), r); e != api.OK || !bytes.Equal(x, b) {
				t.Fatalf("%v: %v, again %v, %v", b, r, x, e)
			}
		}
	}
	if taken < 1000 {
		t.Errorf("only %d were taken", taken)
	}
}
