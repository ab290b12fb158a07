package lines_test

import (
	"fmt"
	"math"
	"regexp"
	"slices"
	"strconv"
	"strings"
	"testing"

	"reredos/api"
	"reredos/lines"
)

// die: numbers that look drawn, the same each time.
type die uint64

func (d *die) n(most int) int {
	*d = *d*6364136223846793005 + 1442695040888963407
	return int(uint64(*d>>33) % uint64(most))
}

// config that may be.
func (d *die) config() api.Config {
	c := api.Config{Sites: 1 + d.n(api.MaxSites), Patience: 1}
	for place := range 1 + d.n(api.MaxLabels) {
		c.Labels = append(c.Labels, api.Label{Level: place})
	}
	return c
}

// upTo a number, most often one of the edges.
func (d *die) upTo(most int) int {
	return []int{0, most, d.n(most + 1)}[d.n(3)]
}

// text of all bytes.
func (d *die) text() string {
	b := make([]byte, d.upTo(api.MaxLine))
	for i := range b {
		b[i] = byte(d.n(256))
	}
	return string(b)
}

// act that may be.
func (d *die) act(c api.Config) api.Act {
	a := api.Act{Kind: 1 + d.n(8)}
	has := strings.Fields(has()[a.Kind])
	if slices.Contains(has, "Site") {
		a.Site = d.n(c.Sites)
	}
	if slices.Contains(has, "To") {
		a.To, a.Pick = d.n(c.Sites), d.upTo(api.MaxPick)
	}
	if slices.Contains(has, "Label") {
		a.Label = d.n(len(c.Labels))
	}
	switch a.Kind {
	case api.Ask:
		a.Call.Kind = 1 + d.n(5)
		for _, f := range fields() {
			if slices.Contains(f.has, a.Call.Kind) {
				a.Call = f.with(a.Call, d.upTo(f.most))
			}
		}
	case api.Crash:
		for range d.n(len(c.Labels) + 1) {
			a.Keep = append(a.Keep, d.upTo(api.MaxTape))
		}
	case api.Type:
		a.Line = d.text()
	}
	return a
}

// wild number: small, at a limit, or out of all bounds.
func (d *die) wild() int {
	l := []int{0, 1, 2, 3, 4, 5, 6, 7, 8, 9, -1, math.MinInt, math.MaxInt, api.MaxNumber, api.MaxNumber + 1, api.MaxTape, api.MaxTape + 1, api.MaxValue, api.MaxValue + 1}
	return l[d.n(len(l))]
}

// spoil something of an act, or nothing.
func (d *die) spoil(a api.Act) api.Act {
	switch d.n(14) {
	case 0:
		a.Kind = d.wild()
	case 1:
		a.Site = d.wild()
	case 2:
		a.To = d.wild()
	case 3:
		a.Label = d.wild()
	case 4:
		a.Pick = d.wild()
	case 5:
		a.Keep = append(slices.Clone(a.Keep), d.wild())
	case 6:
		a.Line = strings.Repeat("x", d.n(api.MaxLine+5))
	case 7:
		a.Call.Kind = d.wild()
	case 8, 9:
		f := fields()[d.n(4)]
		a.Call = f.with(a.Call, d.wild())
	}
	return a
}

// callWordly: what P10.2 says, word by word.
func callWordly(x api.Call) api.Errno {
	if x.Kind < 1 || x.Kind > 5 {
		return api.ErrKind
	}
	if x.N < 0 || x.N > 1<<20 || x.Label < 0 || x.Label > 5 || x.Key < 0 || x.Key > 8 || x.Value < 0 || x.Value > 1<<30 {
		return api.ErrRange
	}
	switch x.Kind {
	case api.Get:
		x.N, x.Label, x.Key = 0, 0, 0
	case api.Put:
		x.N, x.Key, x.Value = 0, 0, 0
	case api.Commit, api.Rollback:
		x.N = 0
	}
	if x != (api.Call{Kind: x.Kind}) {
		return api.ErrForm
	}
	return api.OK
}

// wordly: what P10.1 says, word by word.
func wordly(c api.Config, a api.Act) api.Errno {
	if a.Kind < 1 || a.Kind > 8 {
		return api.ErrKind
	}
	if a.Site < 0 || a.Site >= c.Sites || a.To < 0 || a.To >= c.Sites || a.Label < 0 || a.Label >= len(c.Labels) || a.Pick < 0 || a.Pick > 1<<20 || len(a.Keep) > len(c.Labels) || len(a.Line) > 60 {
		return api.ErrRange
	}
	for _, n := range a.Keep {
		if n < 0 || n > 6000 {
			return api.ErrRange
		}
	}
	x := a.Call
	switch a.Kind {
	case api.Ask:
		a.Site, a.Label, a.Call = 0, 0, api.Call{}
	case api.Deliver, api.Drop, api.Copy:
		a.Site, a.To, a.Label, a.Pick = 0, 0, 0, 0
	case api.Crash:
		a.Site, a.Keep = 0, nil
	case api.Start:
		a.Site = 0
	case api.Type:
		a.Site, a.Label, a.Line = 0, 0, ""
	}
	if !sameActs([]api.Act{a}, []api.Act{{Kind: a.Kind}}) {
		return api.ErrForm
	}
	if a.Kind == api.Ask {
		return callWordly(x)
	}
	return api.OK
}

// TestDrawnCheck: P10.1, P10.2: what is refused is what the words say.
func TestDrawnCheck(t *testing.T) {
	d := die(10)
	seen := map[api.Errno]int{}
	for range 50_000 {
		c := d.config()
		a := d.spoil(d.act(c))
		if d.n(3) == 0 {
			a = d.spoil(a)
		}
		e := lines.Check(c, a)
		if want := wordly(c, a); e != want {
			t.Fatalf("%v, %+v: %v; want %v", c, a, e, want)
		}
		seen[e]++
	}
	for _, e := range []api.Errno{api.OK, api.ErrKind, api.ErrRange, api.ErrForm} {
		if seen[e] < 1000 {
			t.Errorf("too little was tried: %v", seen)
		}
	}
}

// TestDrawnThereAndBack: what is shown is read as it was; each act has one line, in form.
func TestDrawnThereAndBack(t *testing.T) {
	d := die(100)
	for range 2000 {
		c := d.config()
		var l []api.Act
		for range d.n(20) {
			l = append(l, d.act(c))
		}
		s, place, e := lines.Show(c, l)
		if place != 0 || e != api.OK || strings.Count(s, "\n") != len(l) {
			t.Fatalf("%v: %q, %d, %v", l, s, place, e)
		}
		for line := range strings.Lines(s) {
			if !inForm(strings.TrimSuffix(line, "\n")) {
				t.Fatalf("%q", line)
			}
		}
		back, place, e := lines.Read(c, s)
		if !sameActs(back, l) || place != 0 || e != api.OK {
			t.Fatalf("%v: %v, %d, %v", l, back, place, e)
		}
	}
}

// TestDrawnWrong: P10.3: where Show stops is where Check first refuses.
func TestDrawnWrong(t *testing.T) {
	d := die(1000)
	refused := 0
	for range 3000 {
		c := d.config()
		var l []api.Act
		for range d.n(9) {
			l = append(l, d.spoil(d.act(c)))
		}
		at := slices.IndexFunc(l, func(a api.Act) bool { return wordly(c, a) != api.OK })
		s, place, e := lines.Show(c, l)
		if at < 0 {
			if place != 0 || e != api.OK {
				t.Fatalf("%v: %d, %v", l, place, e)
			}
			continue
		}
		refused++
		if s != "" || place != at || e != wordly(c, l[at]) {
			t.Fatalf("%v: %q, %d, %v; want %d", l, s, place, e, at)
		}
	}
	if refused < 1000 {
		t.Errorf("too little was tried: %d", refused)
	}
}

// form of P10.4, with # for a number.
const form = `\A(ask # # (begin|get # # #|put # # #|commit #|rollback #)|(deliver|drop|copy) # # # #|tick|crash #( #)*|start #|type # # \.([0-9a-f]{2})*)\z`

var (
	formOf   = regexp.MustCompile(strings.ReplaceAll(form, "#", `(0|-?[1-9][0-9]*)`))
	numberOf = regexp.MustCompile(`-?[0-9]+`)
)

// inForm: would Show write an act so, but for bounds?
func inForm(line string) bool {
	if !formOf.MatchString(line) {
		return false
	}
	numbers, _, _ := strings.Cut(line, ".")
	for _, n := range numberOf.FindAllString(numbers, -1) {
		if _, e := strconv.ParseInt(n, 10, 64); e != nil {
			return false
		}
	}
	return true
}

// readsByForm: a line is read if it is in form, as an act that is written so; whether it is in form and may be.
func readsByForm(t *testing.T, c api.Config, line string) (bool, bool) {
	t.Helper()
	l, place, e := lines.Read(c, line+"\n")
	if place != 0 || e != api.OK && len(l) != 0 {
		t.Fatalf("%q: %v, %d, %v", line, l, place, e)
	}
	if (e != api.ErrForm) != inForm(line) || e != api.OK && e != api.ErrForm && e != api.ErrRange {
		t.Fatalf("%q: %v, in form: %v", line, e, inForm(line))
	}
	if e == api.OK {
		if s, _, f := lines.Show(c, l); s != line+"\n" || f != api.OK {
			t.Fatalf("%q: %v, shown as %q, %v", line, l, s, f)
		}
	}
	return e != api.ErrForm, e == api.OK
}

// TestReadOneByte: each line that is one byte away from one in form is read as what it says then, or not at all.
func TestReadOneByte(t *testing.T) {
	ok, beyond, refused := 0, 0, 0
	try := func(line string) {
		if strings.Contains(line, "\n") {
			return
		}
		switch form, may := readsByForm(t, conf(), line); {
		case may:
			ok++
		case form:
			beyond++
		default:
			refused++
		}
	}
	for _, line := range []string{
		"ask 1 0 begin", "ask 0 1 get 3 0 7", "ask 2 0 put 10 8 1073741824", "ask 0 0 commit 2", "ask 0 0 rollback -1",
		"deliver 0 1 0 2", "drop 2 -2 1 0", "copy 1 0 0 1048576", "tick", "crash 1", "crash 0 6000 10", "crash 0 9223372036854775807", "start 2", "type 0 1 .0a6f", "type 1 0 .",
	} {
		for at := range len(line) + 1 {
			for b := range 256 {
				try(line[:at] + string([]byte{byte(b)}) + line[at:])
				if at < len(line) {
					try(line[:at] + string([]byte{byte(b)}) + line[at+1:])
				}
			}
			if at < len(line) {
				try(line[:at] + line[at+1:])
			}
		}
	}
	if ok < 200 || beyond < 500 || refused < 10_000 {
		t.Errorf("too little was tried: %d, %d, %d", ok, beyond, refused)
	}
}

// TestReadDrawnWords: words in any order.
func TestReadDrawnWords(t *testing.T) {
	words := []string{"ask", "deliver", "drop", "copy", "tick", "crash", "start", "type", "begin", "get", "put", "commit", "rollback", "0", "1", "0", "1", "0", "1", "2", "-1", "-0", "01", "", ".", ".61", ".6", "9223372036854775807", "9223372036854775808"}
	d := die(10_000)
	read := 0
	for range 100_000 {
		line := words[d.n(8)]
		for range d.n(7) {
			line += " " + words[d.n(len(words))]
		}
		if _, may := readsByForm(t, conf(), line); may {
			read++
		}
	}
	if read < 1000 {
		t.Errorf("too little was tried: %d", read)
	}
}

// TestReadPlaces: P10.4: of many lines, of which some are wrong, the first one tells.
func TestReadPlaces(t *testing.T) {
	pieces := []struct {
		line string
		e    api.Errno
	}{{"tick\n", api.OK}, {"start 2\n", api.OK}, {"crash 0 1 2\n", api.OK}, {"type 0 0 .0a\n", api.OK}, {"ask 1 1 begin\n", api.OK}, {"tock\n", api.ErrForm}, {"\n", api.ErrForm}, {"start 3\n", api.ErrRange}, {"crash 0 1 2 3\n", api.ErrRange}}
	d := die(100_000)
	for range 5000 {
		s, at, want, count := "", 0, api.OK, d.n(8)
		for i := range count {
			p := pieces[d.n(len(pieces))]
			if s += p.line; want == api.OK && p.e != api.OK {
				at, want = i, p.e
			}
		}
		l, place, e := lines.Read(conf(), s)
		if place != at || e != want || e == api.OK && len(l) != count || e != api.OK && len(l) != 0 {
			t.Fatalf("%q: %v, %d, %v; want %d, %v", s, l, place, e, at, want)
		}
	}
}

// roomy: the same list, with spare room in which something stands.
func roomy[T any](l []T, x T) []T {
	return append(slices.Clone(l), slices.Repeat([]T{x}, 5)...)[:len(l)]
}

// spread: all that lists hold, with their spare room, as a text.
func spread(c api.Config, l []api.Act) string {
	out := fmt.Sprintln(c.Labels[:cap(c.Labels)])
	for _, a := range l[:cap(l)] {
		out += fmt.Sprintln(a, a.Keep[:cap(a.Keep)])
	}
	return out
}

// TestChangesNothing: what is handed in stays as it is, its spare room too; asked again, the answer is the same.
func TestChangesNothing(t *testing.T) {
	d := die(1_000_000)
	for range 500 {
		c := d.config()
		c.Labels = roomy(c.Labels, api.Label{Level: -7})
		var l []api.Act
		for range d.n(9) {
			a := d.act(c)
			a.Keep = roomy(a.Keep, -7)
			l = append(l, a)
		}
		l = roomy(l, api.Act{Kind: -7, Keep: []int{-7}})
		was := spread(c, l)
		first, _, e := lines.Show(c, l)
		if second, _, f := lines.Show(c, l); first != second || e != f {
			t.Errorf("%q, %v; then %q, %v", first, e, second, f)
		}
		for _, a := range l {
			lines.Check(c, a)
		}
		lines.Read(c, first)
		if spread(c, l) != was {
			t.Errorf("what was handed in was changed: %s", was)
		}
	}
}

// TestSharesNothing: no two lists of what is read share memory, nor do two answers.
func TestSharesNothing(t *testing.T) {
	s := strings.Repeat("crash 0\ncrash 0 1\ncrash 1 2 3\ntick\n", 50)
	first, _, _ := lines.Read(conf(), s)
	second, _, _ := lines.Read(conf(), s)
	for i, a := range first {
		keep := a.Keep[:cap(a.Keep)]
		for j := range keep {
			keep[j] = -1 - i
		}
	}
	for i, a := range first {
		for _, n := range a.Keep[:cap(a.Keep)] {
			if n != -1-i {
				t.Fatalf("the list of act %d is shared", i)
			}
		}
	}
	clear(first[:cap(first)])
	if again, place, e := lines.Show(conf(), second); again != s || place != 0 || e != api.OK {
		t.Errorf("two answers share memory: %q, %d, %v", again, place, e)
	}
}
