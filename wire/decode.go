package wire

import (
	"reredos/api"
	"reredos/label"
)

// reader takes numbers off the front of bytes. Behind the first thing that is wrong it tells zeros, so that one look at its end is enough.
type reader struct {
	rest  []byte
	wrong api.Errno
}

func (r *reader) refuse(e api.Errno) {
	if r.wrong == api.OK {
		r.wrong = e
	}
}

func (r *reader) number(width int) int {
	if len(r.rest) < width {
		r.refuse(api.ErrShort)
	}
	if r.wrong != api.OK {
		return 0
	}
	n := 0
	for _, x := range r.rest[:width] {
		n = n<<8 | int(x)
	}
	r.rest = r.rest[width:]
	return n
}

// kind below an end; 0, which is none, if it is wrong.
func (r *reader) kind(end int) int {
	n := r.number(1)
	if n == 0 || n >= end {
		r.refuse(api.ErrKind)
		return 0
	}
	return n
}

func (r *reader) txn() api.Txn {
	site := r.number(1)
	return api.Txn{Site: site, N: r.number(numberWidth)}
}

func (r *reader) parts(h has) parts {
	var p parts
	for i, width := range widths {
		if !h[i] {
			continue
		}
		p[i] = r.number(width)
		if i == partYes && p[i] > 1 {
			r.refuse(api.ErrForm)
		}
	}
	return p
}

func (r *reader) sites(count int) []int {
	var l []int
	for range count {
		l = append(l, r.number(1))
	}
	return l
}

// end: nothing was wrong, and nothing is left?
func (r *reader) end() api.Errno {
	if len(r.rest) > 0 {
		r.refuse(api.ErrForm)
	}
	return r.wrong
}

// DecodeMessage: a message from its bytes.
func DecodeMessage(c api.Config, b []byte) (api.Message, api.Errno) {
	if e := label.Check(c); e != api.OK {
		return api.Message{}, e
	}
	r := reader{rest: b}
	m := readMessage(&r)
	if e := r.end(); e != api.OK {
		return api.Message{}, e
	}
	if e := CheckMessage(c, m); e != api.OK {
		return api.Message{}, e
	}
	return m, api.OK
}

func readMessage(r *reader) api.Message {
	m := api.Message{Kind: r.kind(len(messageHas))}
	m.From = r.number(1)
	m.To = r.number(1)
	m.Txn = r.txn()
	p := r.parts(messageHas[m.Kind])
	m.Label = p[partLabel]
	m.Key = p[partKey]
	m.Value = p[partValue]
	m.Version = p[partVersion]
	m.Ask = p[partAsk]
	m.Yes = p[partYes] == 1
	m.Code = api.Errno(p[partCode])
	return m
}

// DecodeRecord: a record from its bytes.
func DecodeRecord(c api.Config, b []byte) (api.Record, api.Errno) {
	if e := label.Check(c); e != api.OK {
		return api.Record{}, e
	}
	r := reader{rest: b}
	x := readRecord(&r)
	if e := r.end(); e != api.OK {
		return api.Record{}, e
	}
	if e := CheckRecord(c, x); e != api.OK {
		return api.Record{}, e
	}
	return x, api.OK
}

func readRecord(r *reader) api.Record {
	x := api.Record{Kind: r.kind(len(recordHas))}
	x.Txn = r.txn()
	p := r.parts(recordHas[x.Kind])
	x.Key = p[partKey]
	x.Value = p[partValue]
	x.Ask = p[partAsk]
	x.Yes = p[partYes] == 1
	x.Sites = r.sites(p[partSites])
	return x
}
