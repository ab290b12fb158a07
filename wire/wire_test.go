package wire_test

import (
	"bytes"
	"math"
	"reflect"
	"strings"
	"testing"

	"reredos/api"
	"reredos/wire"
)

func conf() api.Config {
	return api.Config{Sites: 3, Labels: []api.Label{{}, {Level: 1}}, Patience: 3}
}

// badConfigs: each with what label's Check says of it.
func badConfigs() map[api.Errno]api.Config {
	size, twice, bound := conf(), conf(), conf()
	size.Labels = nil
	twice.Labels = []api.Label{{}, {}}
	bound.Patience = 0
	return map[api.Errno]api.Config{api.ErrSize: size, api.ErrTwice: twice, api.ErrRange: bound}
}

type messageCase struct {
	m api.Message
	b []byte
}

// messages: of each kind one in which nothing that it has is 0, and edges.
func messages() []messageCase {
	t := api.Txn{Site: 2, N: 0x012345}
	head := func(kind byte, rest ...byte) []byte {
		return append([]byte{kind, 1, 2, 2, 1, 0x23, 0x45}, rest...)
	}
	return []messageCase{
		{api.Message{Kind: api.Read, From: 1, To: 2, Txn: t, Label: 1, Key: 7, Ask: 0x0a0b0c}, head(1, 1, 7, 0x0a, 0x0b, 0x0c)},
		{api.Message{Kind: api.Write, From: 1, To: 2, Txn: t, Key: 7, Value: 0x01020304, Ask: 0x0a0b0c}, head(2, 7, 1, 2, 3, 4, 0x0a, 0x0b, 0x0c)},
		{api.Message{Kind: api.Check, From: 1, To: 2, Txn: t, Label: 1, Key: 7, Version: 0x0d0e0f}, head(3, 1, 7, 0x0d, 0x0e, 0x0f)},
		{api.Message{Kind: api.Decide, From: 1, To: 2, Txn: t, Yes: true}, head(4, 1)},
		{api.Message{Kind: api.Decide, From: 1, To: 2, Txn: t}, head(4, 0)},
		{api.Message{Kind: api.Got, From: 1, To: 2, Txn: t, Label: 1, Key: 7, Value: 0x01020304, Version: 0x0d0e0f, Ask: 0x0a0b0c}, head(5, 1, 7, 1, 2, 3, 4, 0x0d, 0x0e, 0x0f, 0x0a, 0x0b, 0x0c, 0)},
		{api.Message{Kind: api.Got, From: 1, To: 2, Txn: t, Label: 1, Key: 7, Ask: 1, Code: api.ErrBusy}, head(5, 1, 7, 0, 0, 0, 0, 0, 0, 0, 0, 0, 1, 11)},
		{api.Message{Kind: api.Done, From: 1, To: 2, Txn: t, Key: 7, Ask: 2, Code: api.ErrFull}, head(6, 7, 0, 0, 2, 8)},
		{api.Message{Kind: api.Sure, From: 1, To: 2, Txn: t, Label: 1, Key: 7, Version: 3, Yes: true}, head(7, 1, 7, 0, 0, 3, 1)},
		{api.Message{Kind: api.Ack, From: 1, To: 2, Txn: t}, head(8)},
		{api.Message{Kind: api.Doubts, From: 1, To: 2, Txn: t}, head(9)},
		{api.Message{Kind: api.Ack, Txn: api.Txn{N: 1}}, []byte{8, 0, 0, 0, 0, 0, 1}},
		{api.Message{Kind: api.Got, Txn: api.Txn{N: api.MaxNumber}, Value: api.MaxValue, Version: api.MaxVersion, Ask: api.MaxNumber},
			[]byte{5, 0, 0, 0, 0x10, 0, 0, 0, 0, 0x40, 0, 0, 0, 0x10, 0, 0, 0x10, 0, 0, 0}},
	}
}

type recordCase struct {
	r api.Record
	b []byte
}

func records() []recordCase {
	t := api.Txn{Site: 2, N: 0x012345}
	head := func(kind byte, rest ...byte) []byte {
		return append([]byte{kind, 2, 1, 0x23, 0x45}, rest...)
	}
	return []recordCase{
		{api.Record{Kind: api.Prepared, Txn: t, Key: 7, Value: 0x01020304, Ask: 0x0a0b0c}, head(1, 7, 1, 2, 3, 4, 0x0a, 0x0b, 0x0c)},
		{api.Record{Kind: api.Applied, Txn: t, Yes: true}, head(2, 1)},
		{api.Record{Kind: api.Applied, Txn: t}, head(2, 0)},
		{api.Record{Kind: api.Committed, Txn: t}, head(3, 0)},
		{api.Record{Kind: api.Committed, Txn: t, Sites: []int{}}, head(3, 0)},
		{api.Record{Kind: api.Committed, Txn: t, Sites: []int{0, 2}}, head(3, 2, 0, 2)},
		{api.Record{Kind: api.Committed, Txn: t, Sites: []int{0, 1, 2}}, head(3, 3, 0, 1, 2)},
		{api.Record{Kind: api.Ended, Txn: t}, head(4)},
		{api.Record{Kind: api.Began, Txn: t}, head(5)},
		{api.Record{Kind: api.Forced, Txn: t, Yes: true}, head(6, 1)},
		{api.Record{Kind: api.Forced, Txn: t}, head(6, 0)},
		{api.Record{Kind: api.Prepared, Txn: api.Txn{N: api.MaxNumber}, Value: api.MaxValue, Ask: api.MaxNumber},
			[]byte{1, 0, 0x10, 0, 0, 0, 0x40, 0, 0, 0, 0x10, 0, 0}},
	}
}

// TestMessageBytes: P2.2, P2.4.
func TestMessageBytes(t *testing.T) {
	for _, x := range messages() {
		if e := wire.CheckMessage(conf(), x.m); e != api.OK {
			t.Errorf("Check of %v: %v", x.m, e)
		}
		if b, e := wire.EncodeMessage(conf(), x.m); e != api.OK || !bytes.Equal(b, x.b) {
			t.Errorf("%v: %v, %v, want %v", x.m, b, e, x.b)
		}
	}
}

// TestRecordBytes: P2.3, P2.5.
func TestRecordBytes(t *testing.T) {
	for _, x := range records() {
		if e := wire.CheckRecord(conf(), x.r); e != api.OK {
			t.Errorf("Check of %v: %v", x.r, e)
		}
		if b, e := wire.EncodeRecord(conf(), x.r); e != api.OK || !bytes.Equal(b, x.b) {
			t.Errorf("%v: %v, %v, want %v", x.r, b, e, x.b)
		}
	}
}

// TestConfigFirst: P2.1: what is wrong with the config is told ahead of all else.
func TestConfigFirst(t *testing.T) {
	for want, c := range badConfigs() {
		_, e1 := wire.EncodeMessage(c, api.Message{Kind: -1})
		_, e2 := wire.EncodeRecord(c, api.Record{Kind: -1})
		m, e3 := wire.DecodeMessage(c, nil)
		r, e4 := wire.DecodeRecord(c, nil)
		for i, e := range []api.Errno{wire.CheckMessage(c, api.Message{Kind: -1}), wire.CheckRecord(c, api.Record{Kind: -1}), e1, e2, e3, e4} {
			if e != want {
				t.Errorf("call %d of %v: %v, want %v", i, c, e, want)
			}
		}
		if m != (api.Message{}) || !reflect.DeepEqual(r, api.Record{}) {
			t.Errorf("with an error: %v, %v", m, r)
		}
	}
}

// refusedMessage: both Check and Encode tell the error.
func refusedMessage(t *testing.T, m api.Message, want api.Errno) {
	t.Helper()
	if e := wire.CheckMessage(conf(), m); e != want {
		t.Errorf("Check of %v: %v, want %v", m, e, want)
	}
	if b, e := wire.EncodeMessage(conf(), m); e != want || len(b) != 0 {
		t.Errorf("Encode of %v: %v, %v, want %v", m, b, e, want)
	}
}

func refusedRecord(t *testing.T, r api.Record, want api.Errno) {
	t.Helper()
	if e := wire.CheckRecord(conf(), r); e != want {
		t.Errorf("Check of %v: %v, want %v", r, e, want)
	}
	if b, e := wire.EncodeRecord(conf(), r); e != want || len(b) != 0 {
		t.Errorf("Encode of %v: %v, %v, want %v", r, b, e, want)
	}
}

// TestKinds: no such kind is told ahead of numbers that are out of bounds.
func TestKinds(t *testing.T) {
	for _, kind := range []int{0, -1, api.Doubts + 1, math.MinInt, math.MaxInt} {
		refusedMessage(t, api.Message{Kind: kind}, api.ErrKind)
		refusedMessage(t, api.Message{Kind: kind, From: -1, Key: 99}, api.ErrKind)
	}
	for _, kind := range []int{0, -1, api.Forced + 1, math.MinInt, math.MaxInt} {
		refusedRecord(t, api.Record{Kind: kind}, api.ErrKind)
		refusedRecord(t, api.Record{Kind: kind, Key: 99, Sites: []int{9}}, api.ErrKind)
	}
}

// numbers of a message that have bounds, and these.
var messageNumbers = map[string]struct {
	set       func(m *api.Message, n int)
	low, high int
}{
	"From":    {func(m *api.Message, n int) { m.From = n }, 0, 2},
	"To":      {func(m *api.Message, n int) { m.To = n }, 0, 2},
	"Site":    {func(m *api.Message, n int) { m.Txn.Site = n }, 0, 2},
	"N":       {func(m *api.Message, n int) { m.Txn.N = n }, 1, api.MaxNumber},
	"Label":   {func(m *api.Message, n int) { m.Label = n }, 0, 1},
	"Key":     {func(m *api.Message, n int) { m.Key = n }, 0, api.Keys - 1},
	"Value":   {func(m *api.Message, n int) { m.Value = n }, 0, api.MaxValue},
	"Version": {func(m *api.Message, n int) { m.Version = n }, 0, api.MaxVersion},
	"Ask":     {func(m *api.Message, n int) { m.Ask = n }, 0, api.MaxNumber},
}

// TestMessageBounds: P2.2: a number out of bounds is told, whether the kind has it or not, ahead of what it has not.
func TestMessageBounds(t *testing.T) {
	for _, x := range messages() {
		for name, f := range messageNumbers {
			for _, n := range []int{f.low - 1, f.high + 1, math.MinInt, math.MaxInt} {
				m := x.m
				f.set(&m, n)
				refusedMessage(t, m, api.ErrRange)
			}
			for _, n := range []int{f.low, f.high} {
				m := x.m
				f.set(&m, n)
				if e := wire.CheckMessage(conf(), m); e != api.OK && e != api.ErrForm {
					t.Errorf("%s %d of %v: %v", name, n, m, e)
				}
			}
		}
		for code := api.Errno(-2); code < 300; code++ {
			if m := x.m; code != api.OK && code != api.ErrBusy && code != api.ErrFull {
				m.Code = code
				refusedMessage(t, m, api.ErrRange)
			}
		}
	}
}

// messageHas: P2.2's list.
var messageHas = map[int]string{
	api.Read: "Label Key Ask", api.Write: "Key Value Ask", api.Check: "Label Key Version", api.Decide: "Yes",
	api.Got: "Label Key Value Version Ask Code", api.Done: "Key Ask Code", api.Sure: "Label Key Version Yes",
	api.Ack: "", api.Doubts: "",
}

// TestMessageForm: P2.2: each kind with each part alone.
func TestMessageForm(t *testing.T) {
	one := map[string]api.Message{
		"Label": {Label: 1}, "Key": {Key: 1}, "Value": {Value: 1}, "Version": {Version: 1}, "Ask": {Ask: 1},
		"Yes": {Yes: true}, "Code": {Code: api.ErrBusy},
	}
	for kind, has := range messageHas {
		for name, m := range one {
			m.Kind, m.Txn.N = kind, 1
			if !strings.Contains(has, name) {
				refusedMessage(t, m, api.ErrForm)
			} else if e := wire.CheckMessage(conf(), m); e != api.OK {
				t.Errorf("kind %d with %s: %v", kind, name, e)
			}
		}
	}
	for _, code := range []api.Errno{api.ErrBusy, api.ErrFull} {
		refusedMessage(t, api.Message{Kind: api.Got, Txn: api.Txn{N: 1}, Value: 1, Code: code}, api.ErrForm)
		refusedMessage(t, api.Message{Kind: api.Got, Txn: api.Txn{N: 1}, Version: 1, Code: code}, api.ErrForm)
	}
}

// TestRecordBounds: P2.3.
func TestRecordBounds(t *testing.T) {
	edges := []struct {
		set       func(r *api.Record, n int)
		low, high int
	}{
		{func(r *api.Record, n int) { r.Txn.Site = n }, 0, 2},
		{func(r *api.Record, n int) { r.Txn.N = n }, 1, api.MaxNumber},
		{func(r *api.Record, n int) { r.Key = n }, 0, api.Keys - 1},
		{func(r *api.Record, n int) { r.Value = n }, 0, api.MaxValue},
		{func(r *api.Record, n int) { r.Ask = n }, 0, api.MaxNumber},
	}
	for _, x := range records() {
		for _, f := range edges {
			for _, n := range []int{f.low - 1, f.high + 1, math.MinInt, math.MaxInt} {
				r := x.r
				f.set(&r, n)
				refusedRecord(t, r, api.ErrRange)
			}
		}
		for _, sites := range [][]int{{-1}, {3}, {1, 0}, {1, 1}, {0, 1, 2, 3}, {0, 1, 2, 2}, {math.MaxInt}, make([]int, 300)} {
			r := x.r
			r.Sites = sites
			refusedRecord(t, r, api.ErrRange)
		}
	}
}

// TestRecordForm: P2.3: each kind with each part alone.
func TestRecordForm(t *testing.T) {
	one := map[string]api.Record{"Key": {Key: 1}, "Value": {Value: 1}, "Ask": {Ask: 1}, "Yes": {Yes: true}, "Sites": {Sites: []int{1}}}
	for kind, has := range map[int]string{
		api.Prepared: "Key Value Ask", api.Applied: "Yes", api.Committed: "Sites", api.Ended: "", api.Began: "", api.Forced: "Yes",
	} {
		for name, r := range one {
			r.Kind, r.Txn.N = kind, 1
			if !strings.Contains(has, name) {
				refusedRecord(t, r, api.ErrForm)
			} else if e := wire.CheckRecord(conf(), r); e != api.OK {
				t.Errorf("kind %d with %s: %v", kind, name, e)
			}
		}
		if e := wire.CheckRecord(conf(), api.Record{Kind: kind, Txn: api.Txn{N: 1}, Sites: []int{}}); e != api.OK {
			t.Errorf("kind %d with an empty list: %v", kind, e)
		}
	}
}

// TestGreatest: with as many sites and labels as there may be, the last ones are there.
func TestGreatest(t *testing.T) {
	c := api.Config{Sites: api.MaxSites, Patience: 1}
	for i := range api.MaxLabels {
		c.Labels = append(c.Labels, api.Label{Level: i})
	}
	last := api.Txn{Site: api.MaxSites - 1, N: 1}
	m := api.Message{Kind: api.Read, From: 3, To: 3, Txn: last, Label: api.MaxLabels - 1}
	if e := wire.CheckMessage(c, m); e != api.OK {
		t.Errorf("%v: %v", m, e)
	}
	r := api.Record{Kind: api.Committed, Txn: last, Sites: []int{0, 1, 2, 3}}
	if e := wire.CheckRecord(c, r); e != api.OK {
		t.Errorf("%v: %v", r, e)
	}
}
