package lines

import (
	"strconv"
	"strings"

	"reredos/api"
	"reredos/label"
)

// Read lines; the place of the line that is wrong.
func Read(c api.Config, s string) ([]api.Act, int, api.Errno) {
	if e := label.Check(c); e != api.OK {
		return nil, 0, e
	}
	var l []api.Act
	for place := 0; s != ""; place++ {
		if place == api.MaxActs {
			return nil, place, api.ErrSize
		}
		line, rest, ended := strings.Cut(s, "\n")
		a, inForm := readAct(line)
		if !ended || !inForm {
			return nil, place, api.ErrForm
		}
		if e := Check(c, a); e != api.OK {
			return nil, place, e
		}
		l, s = append(l, a), rest
	}
	return l, 0, api.OK
}

// readAct of a line without its end; whether it is in form.
func readAct(line string) (api.Act, bool) {
	r := reader{rest: line}
	a := r.act()
	return a, r.ended && !r.wrong
}

// reader takes words off the front of a line. What is wrong it remembers, so that one look at its end is enough.
type reader struct {
	rest  string
	ended bool // no word is left; with an empty rest an empty one may be
	wrong bool
}

// word: where none is left it is empty, and with such a one nothing is written.
func (r *reader) word() string {
	word, rest, more := strings.Cut(r.rest, " ")
	r.rest, r.ended = rest, !more
	return word
}

func (r *reader) number() int {
	word := r.word()
	n, e := strconv.Atoi(word)
	// Atoi takes a plus, noughts ahead and -0; such a word is not the one that its number is written with.
	if e != nil || strconv.Itoa(n) != word {
		r.wrong = true
	}
	return n
}

// kept: all numbers that are left.
func (r *reader) kept() []int {
	var l []int
	for !r.ended && !r.wrong {
		n := r.number()
		// One more than there may be labels is enough to be refused; a long line would fill the memory.
		if len(l) <= api.MaxLabels {
			l = append(l, n)
		}
	}
	return l
}

// text of the digits of its bytes.
func (r *reader) text() string {
	hex, dotted := strings.CutPrefix(r.word(), ".")
	if !dotted || len(hex)%2 != 0 {
		r.wrong = true
		return ""
	}
	var b []byte
	for i := 0; i < len(hex); i += 2 {
		high, low := strings.IndexByte(digits, hex[i]), strings.IndexByte(digits, hex[i+1])
		if high < 0 || low < 0 {
			r.wrong = true
			return ""
		}
		b = append(b, byte(high<<4|low))
	}
	return string(b)
}

func (r *reader) act() api.Act {
	a := api.Act{Kind: actKind(r.word())}
	if a.Kind == 0 {
		r.wrong = true
	}
	has := actHas[a.Kind]
	var parts [numberCount]int
	r.numbers(has[:numberCount], parts[:])
	a.Site, a.To, a.Label, a.Pick = parts[partSite], parts[partTo], parts[partLabel], parts[partPick]
	if has[partKeep] {
		a.Keep = r.kept()
	}
	if has[partCall] {
		a.Call = r.call()
	}
	if has[partLine] {
		a.Line = r.text()
	}
	return a
}

func (r *reader) call() api.Call {
	kind := callKind(r.word())
	if kind == 0 {
		r.wrong = true
	}
	has := callHas[kind]
	var parts [callCount]int
	r.numbers(has[:], parts[:])
	return api.Call{Kind: kind, N: parts[callN], Label: parts[callLabel], Key: parts[callKey], Value: parts[callValue]}
}

// numbers that there are, each to its place.
func (r *reader) numbers(has []bool, parts []int) {
	for i := range parts {
		if has[i] {
			parts[i] = r.number()
		}
	}
}

// actKind of a word; 0 if it is none.
func actKind(word string) int {
	for kind, w := range actWords {
		if w == word {
			return kind
		}
	}
	return 0
}

// callKind of a word; 0 if it is none.
func callKind(word string) int {
	for kind, w := range callWords {
		if w == word {
			return kind
		}
	}
	return 0
}
