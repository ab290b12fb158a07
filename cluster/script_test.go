package cluster_test

import (
	"fmt"
	"slices"
	"strings"
	"testing"

	"reredos/api"
	"reredos/cluster"
	"reredos/lines"
	"reredos/tape"
)

// Labels of conf, by their places: high and aside dominate low, and neither the other one.
const (
	low = iota
	high
	aside
)

func conf() api.Config {
	return api.Config{Sites: 2, Labels: []api.Label{{}, {Level: 1}, {Cats: 1}}, Patience: 3}
}

// actsOf a text: lines as package lines reads them, but for those of a Type, where the Line stands as it is typed. Several may stand on one line, with a ; between.
func actsOf(t *testing.T, c api.Config, text string) []api.Act {
	t.Helper()
	var l []api.Act
	for _, s := range strings.FieldsFunc(text, func(r rune) bool { return r == '\n' || r == ';' }) {
		s = strings.TrimSpace(s)
		if s == "" {
			continue
		}
		typed := ""
		if words := strings.SplitN(s, " ", 4); words[0] == "type" {
			typed = words[3]
			s = strings.Join(words[:3], " ") + " ."
		}
		acts, _, e := lines.Read(c, s+"\n")
		if e != api.OK {
			t.Fatalf("%q: %v", s, e)
		}
		acts[0].Line = typed
		l = append(l, acts...)
	}
	return l
}

// run acts that may be.
func run(t *testing.T, c api.Config, l []api.Act) api.Outcome {
	t.Helper()
	o, place, e := cluster.Run(c, l)
	if place != 0 || e != api.OK {
		t.Fatalf("%d, %v", place, e)
	}
	if len(o.Views) != len(c.Labels) || len(o.Up) != c.Sites {
		t.Fatalf("%d views, %d sites", len(o.Views), len(o.Up))
	}
	return o
}

// play a text with conf.
func play(t *testing.T, text string) api.Outcome {
	t.Helper()
	return run(t, conf(), actsOf(t, conf(), text))
}

// is: whether something is told as it should be.
func is(t *testing.T, what string, got any, want string) {
	t.Helper()
	if s := fmt.Sprint(got); s != want {
		t.Errorf("%s: %s; want %s", what, s, want)
	}
}

// wrote: the records of a tape, and how many of its bytes are synced.
func wrote(t *testing.T, x api.Tape) ([]api.Record, int) {
	t.Helper()
	l, whole, e := tape.Recover(conf(), x)
	if e != api.OK || len(whole.Data) != len(x.Data) {
		t.Fatalf("%v: %v", x, e)
	}
	return l, x.Synced
}

// codes of replies.
func codes(l []api.Reply) []int {
	var out []int
	for _, r := range l {
		out = append(out, int(r.Code))
	}
	return out
}

// kinds of the messages from a site to another one.
func kinds(v api.View, c api.Config, from, to int) []int {
	var out []int
	for _, m := range v.Flying[from*c.Sites+to] {
		out = append(out, m.Kind)
	}
	return out
}

// flying: how many messages are on their way.
func flying(v api.View) int {
	n := 0
	for _, l := range v.Flying {
		n += len(l)
	}
	return n
}

// same outcome, but for lists without elements, which may be nil or not.
func same(a, b any) bool {
	return fmt.Sprintf("%+v", a) == fmt.Sprintf("%+v", b)
}

// times: a script over and over.
func times(n int, l []api.Act) []api.Act {
	return slices.Repeat(l, n)
}
