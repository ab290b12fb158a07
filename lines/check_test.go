package lines_test

import (
	"math"
	"slices"
	"strings"
	"testing"

	"reredos/api"
	"reredos/lines"
)

// conf: with fewer sites and labels than there may be.
func conf() api.Config {
	return api.Config{Sites: 3, Labels: []api.Label{{}, {Level: 1}}, Patience: 3}
}

type badConfig struct {
	config api.Config
	want   api.Errno
}

// badConfigs: one for each thing that label's Check refuses.
func badConfigs() []badConfig {
	one := []api.Label{{}}
	return []badConfig{
		{api.Config{}, api.ErrRange},
		{api.Config{Sites: -1, Labels: one, Patience: 1}, api.ErrRange},
		{api.Config{Sites: api.MaxSites + 1, Labels: one, Patience: 1}, api.ErrRange},
		{api.Config{Sites: math.MaxInt, Labels: one, Patience: 1}, api.ErrRange},
		{api.Config{Sites: 1, Patience: 1}, api.ErrSize},
		{api.Config{Sites: 1, Labels: make([]api.Label, api.MaxLabels+1), Patience: 1}, api.ErrSize},
		{api.Config{Sites: 1, Labels: []api.Label{{Level: -1}}, Patience: 1}, api.ErrRange},
		{api.Config{Sites: 1, Labels: []api.Label{{Cats: api.MaxCats + 1}}, Patience: 1}, api.ErrRange},
		{api.Config{Sites: 1, Labels: []api.Label{{Level: 1}, {Level: 1}}, Patience: 1}, api.ErrTwice},
		{api.Config{Sites: 1, Labels: one}, api.ErrRange},
		{api.Config{Sites: 1, Labels: one, Patience: api.MaxAge + 1}, api.ErrRange},
	}
}

// checks: what is said of an act.
func checks(t *testing.T, a api.Act, want api.Errno) {
	t.Helper()
	if e := lines.Check(conf(), a); e != want {
		t.Errorf("%+v: %v; want %v", a, e, want)
	}
}

// calls: what is said of a call, asked at some site and label.
func calls(t *testing.T, x api.Call, want api.Errno) {
	t.Helper()
	checks(t, api.Act{Kind: api.Ask, Call: x}, want)
	checks(t, api.Act{Kind: api.Ask, Site: 2, Label: 1, Call: x}, want)
}

// part: a change that gives an act something that a kind may have or not.
type part struct {
	name   string
	change func(a *api.Act)
}

// wholes: something that is not empty, within its bounds, for each part of an act.
func wholes() []part {
	return []part{
		{"Site", func(a *api.Act) { a.Site = 2 }},
		{"To", func(a *api.Act) { a.To = 1 }},
		{"Label", func(a *api.Act) { a.Label = 1 }},
		{"Pick", func(a *api.Act) { a.Pick = 1 }},
		{"Keep", func(a *api.Act) { a.Keep = []int{0} }},
		{"Call", func(a *api.Act) { a.Call = api.Call{Kind: api.Begin} }},
		{"Line", func(a *api.Act) { a.Line = "\x00" }},
	}
}

// beyonds: something out of its bounds, for each part of an act that has some.
func beyonds() []part {
	l := []part{
		{"Keep", func(a *api.Act) { a.Keep = []int{0, 0, 0} }},
		{"Keep", func(a *api.Act) { a.Keep = make([]int, 1000) }},
		{"Line", func(a *api.Act) { a.Line = strings.Repeat("x", api.MaxLine+1) }},
		{"Line", func(a *api.Act) { a.Line = strings.Repeat("\u00e4", api.MaxLine/2+1) }},
		{"Line", func(a *api.Act) { a.Line = strings.Repeat("\x00", 100_000) }},
	}
	for _, n := range []int{-1, math.MinInt, math.MaxInt} {
		l = append(l, part{"Site", func(a *api.Act) { a.Site = n }}, part{"To", func(a *api.Act) { a.To = n }})
		l = append(l, part{"Label", func(a *api.Act) { a.Label = n }}, part{"Pick", func(a *api.Act) { a.Pick = n }})
		l = append(l, part{"Keep", func(a *api.Act) { a.Keep = []int{n} }}, part{"Keep", func(a *api.Act) { a.Keep = []int{0, n} }})
	}
	return append(l,
		part{"Site", func(a *api.Act) { a.Site = 3 }}, part{"To", func(a *api.Act) { a.To = 3 }},
		part{"Label", func(a *api.Act) { a.Label = 2 }}, part{"Pick", func(a *api.Act) { a.Pick = api.MaxPick + 1 }},
		part{"Keep", func(a *api.Act) { a.Keep = []int{api.MaxTape + 1, 0} }}, part{"Keep", func(a *api.Act) { a.Keep = []int{api.MaxTape + 1} }},
	)
}

// has: what P10.1 says that each kind of act has.
func has() map[int]string {
	return map[int]string{
		api.Ask:     "Site Label Call",
		api.Deliver: "Site To Label Pick",
		api.Drop:    "Site To Label Pick",
		api.Copy:    "Site To Label Pick",
		api.Tick:    "",
		api.Crash:   "Site Keep",
		api.Start:   "Site",
		api.Type:    "Site Label Line",
	}
}

// bare act of a kind: with no more than it needs.
func bare(kind int) api.Act {
	a := api.Act{Kind: kind}
	if kind == api.Ask {
		a.Call.Kind = api.Begin
	}
	return a
}

// TestCheckConfig: P10.1: what label's Check refuses is refused ahead of all else, at the place 0.
func TestCheckConfig(t *testing.T) {
	for _, x := range badConfigs() {
		for _, a := range []api.Act{{}, {Kind: api.Tick}, {Kind: api.Tick, Site: -1}, {Kind: 9}, {Kind: api.Start, To: 1}} {
			if e := lines.Check(x.config, a); e != x.want {
				t.Errorf("%v, %v: %v; want %v", x.config, a, e, x.want)
			}
		}
		for _, l := range [][]api.Act{nil, {{Kind: api.Tick}}, {{Kind: api.Tick}, {}}, make([]api.Act, api.MaxActs+1)} {
			if s, place, e := lines.Show(x.config, l); s != "" || place != 0 || e != x.want {
				t.Errorf("%v: Show: %q, %d, %v; want %v", x.config, s, place, e, x.want)
			}
		}
		for _, s := range []string{"", "tick\n", "tick\ntock\n", "tick", strings.Repeat("tick\n", api.MaxActs+1)} {
			if l, place, e := lines.Read(x.config, s); len(l) != 0 || place != 0 || e != x.want {
				t.Errorf("%v: Read: %v, %d, %v; want %v", x.config, l, place, e, x.want)
			}
		}
	}
}

// TestCheckKind: P10.1: there are eight kinds; ErrKind comes first.
func TestCheckKind(t *testing.T) {
	for kind := range has() {
		checks(t, bare(kind), api.OK)
	}
	for _, kind := range []int{0, -1, 9, 10, math.MinInt, math.MaxInt, 1 << 32, 1<<32 + 1, 256 + 5} {
		a := api.Act{Kind: kind}
		checks(t, a, api.ErrKind)
		for _, p := range slices.Concat(wholes(), beyonds()) {
			b := a
			p.change(&b)
			checks(t, b, api.ErrKind)
		}
	}
}

// TestCheckForm: P10.1: each kind has what it has, and nothing else.
func TestCheckForm(t *testing.T) {
	for kind, what := range has() {
		for _, p := range wholes() {
			a, want := bare(kind), api.ErrForm
			p.change(&a)
			if slices.Contains(strings.Fields(what), p.name) {
				want = api.OK
			}
			checks(t, a, want)
		}
	}
}

// TestCheckFormCall: P10.1: of an act that is no Ask each field of the call is something that it has not, whatever it is.
func TestCheckFormCall(t *testing.T) {
	for kind := range has() {
		if kind == api.Ask {
			continue
		}
		for _, n := range []int{1, -1, 5, 9, math.MinInt, math.MaxInt} {
			for _, x := range []api.Call{{Kind: n}, {N: n}, {Label: n}, {Key: n}, {Value: n}} {
				a := bare(kind)
				a.Call = x
				checks(t, a, api.ErrForm)
			}
		}
	}
}

// TestCheckRange: P10.1: the bounds are those of all kinds, and come ahead of what a kind has not.
func TestCheckRange(t *testing.T) {
	for kind := range has() {
		for _, p := range beyonds() {
			a := bare(kind)
			p.change(&a)
			checks(t, a, api.ErrRange)
			for _, other := range wholes() {
				if other.name != p.name {
					b := a
					other.change(&b)
					checks(t, b, api.ErrRange)
				}
			}
		}
	}
}

// TestCheckEdges: P10.1: the last numbers within the bounds; how many sites and labels there are hangs on the config.
func TestCheckEdges(t *testing.T) {
	for _, kind := range []int{api.Deliver, api.Drop, api.Copy} {
		for _, pick := range []int{0, 1, api.MaxPick} {
			checks(t, api.Act{Kind: kind, Site: 2, Label: 1, Pick: pick}, api.OK)
			checks(t, api.Act{Kind: kind, To: 2, Pick: pick}, api.OK)
			checks(t, api.Act{Kind: kind, Site: 2, To: 2, Pick: pick}, api.OK)
		}
	}
	for _, keep := range [][]int{nil, {}, {0}, {api.MaxTape}, {0, 0}, {0, api.MaxTape}, {api.MaxTape, api.MaxTape}} {
		checks(t, api.Act{Kind: api.Crash, Keep: keep}, api.OK)
	}
	checks(t, api.Act{Kind: api.Tick, Keep: []int{}}, api.OK)
	for _, line := range []string{"", "\n", " ", "\xff\x00", strings.Repeat("x", api.MaxLine), strings.Repeat("\u00e4", api.MaxLine/2)} {
		checks(t, api.Act{Kind: api.Type, Line: line}, api.OK)
	}
	most := api.Config{Sites: api.MaxSites, Patience: api.MaxAge}
	for place := range api.MaxLabels {
		most.Labels = append(most.Labels, api.Label{Level: place})
	}
	keep := slices.Repeat([]int{api.MaxTape}, api.MaxLabels)
	for _, x := range []struct {
		act  api.Act
		want api.Errno
	}{
		{api.Act{Kind: api.Copy, Site: api.MaxSites - 1, To: api.MaxSites - 1, Label: api.MaxLabels - 1}, api.OK},
		{api.Act{Kind: api.Copy, Site: api.MaxSites}, api.ErrRange},
		{api.Act{Kind: api.Copy, To: api.MaxSites}, api.ErrRange},
		{api.Act{Kind: api.Copy, Label: api.MaxLabels}, api.ErrRange},
		{api.Act{Kind: api.Crash, Keep: keep}, api.OK},
		{api.Act{Kind: api.Crash, Keep: append(keep, 0)}, api.ErrRange},
	} {
		if e := lines.Check(most, x.act); e != x.want {
			t.Errorf("%v: %v; want %v", x.act, e, x.want)
		}
	}
}

// TestCheckCall: P10.2: each kind of call, at its least and at its most.
func TestCheckCall(t *testing.T) {
	for kind := api.Begin; kind <= api.Rollback; kind++ {
		calls(t, api.Call{Kind: kind}, api.OK)
	}
	calls(t, api.Call{Kind: api.Get, N: api.MaxNumber, Label: api.MaxLabels - 1, Key: api.Keys}, api.OK)
	calls(t, api.Call{Kind: api.Put, N: api.MaxNumber, Key: api.Keys, Value: api.MaxValue}, api.OK)
	calls(t, api.Call{Kind: api.Commit, N: api.MaxNumber}, api.OK)
	calls(t, api.Call{Kind: api.Rollback, N: api.MaxNumber}, api.OK)
}

// field of a call: the greatest number that it may have, and which kinds have it.
type field struct {
	name string
	most int
	has  []int
	with func(x api.Call, n int) api.Call
}

func fields() []field {
	return []field{
		{"N", api.MaxNumber, []int{api.Get, api.Put, api.Commit, api.Rollback}, func(x api.Call, n int) api.Call { x.N = n; return x }},
		{"Label", api.MaxLabels - 1, []int{api.Get}, func(x api.Call, n int) api.Call { x.Label = n; return x }},
		{"Key", api.Keys, []int{api.Get, api.Put}, func(x api.Call, n int) api.Call { x.Key = n; return x }},
		{"Value", api.MaxValue, []int{api.Put}, func(x api.Call, n int) api.Call { x.Value = n; return x }},
	}
}

// TestCheckCallFields: P10.2: ErrKind, then ErrRange, then ErrForm, of each field by itself and of each two.
func TestCheckCallFields(t *testing.T) {
	for _, f := range fields() {
		for kind := api.Begin; kind <= api.Rollback; kind++ {
			x, inForm := api.Call{Kind: kind}, api.ErrForm
			if slices.Contains(f.has, kind) {
				inForm = api.OK
			}
			for _, n := range []int{1, f.most - 1, f.most} {
				calls(t, f.with(x, n), inForm)
			}
			for _, n := range []int{-1, f.most + 1, math.MinInt, math.MaxInt, 1 << 32} {
				calls(t, f.with(x, n), api.ErrRange)
				for _, other := range fields() {
					if other.name != f.name {
						calls(t, other.with(f.with(x, n), 1), api.ErrRange)
					}
				}
			}
		}
		for _, kind := range []int{0, -1, 6, 7, 8, math.MinInt, math.MaxInt, 256 + 1} {
			calls(t, api.Call{Kind: kind}, api.ErrKind)
			for _, n := range []int{1, f.most, -1, f.most + 1} {
				calls(t, f.with(api.Call{Kind: kind}, n), api.ErrKind)
			}
		}
	}
}

// TestCheckCallLast: P10.1: what is wrong with an Ask beside its call comes ahead of what is wrong with that.
func TestCheckCallLast(t *testing.T) {
	for _, x := range []api.Call{{}, {Kind: 6}, {Kind: api.Get, N: -1}, {Kind: api.Begin, N: 1}, {Kind: api.Get, Key: api.Keys + 1}} {
		checks(t, api.Act{Kind: api.Ask, To: 1, Call: x}, api.ErrForm)
		checks(t, api.Act{Kind: api.Ask, Pick: 1, Call: x}, api.ErrForm)
		checks(t, api.Act{Kind: api.Ask, Keep: []int{0}, Call: x}, api.ErrForm)
		checks(t, api.Act{Kind: api.Ask, Line: "x", Call: x}, api.ErrForm)
		checks(t, api.Act{Kind: api.Ask, Site: 3, Call: x}, api.ErrRange)
		checks(t, api.Act{Kind: api.Ask, Label: 2, To: 1, Call: x}, api.ErrRange)
	}
}
