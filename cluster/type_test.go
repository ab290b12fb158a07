package cluster_test

import (
	"fmt"
	"slices"
	"strings"
	"testing"

	"reredos/api"
)

// TestType: P11.7: what an operator is told, by what is typed where.
func TestType(t *testing.T) {
	for _, x := range []struct {
		script, typed string
		l             int
		want          string
	}{
		{"", "type 0 0 list", low, ""},
		{"", "type 0 0 audit", low, ""},
		{"", "type 0 0 status 0 0 1", low, "unknown\n"},
		{prepared, "type 1 0 list", low, "0 0 1 0\n"},
		{prepared + "tick; tick;", "type 1 0 list", low, "0 0 1 2\n"},
		{prepared, "type 0 0 list", low, ""},
		{prepared, "type 1 0 status 0 0 1", low, "prepared\n"},
		{prepared, "type 0 0 status 0 0 1", low, "unknown\n"},
		{prepared, "type 1 1 status 0 0 1", high, "prepared\n"},
		{prepared, "type 1 1 list", high, "0 0 1 0\n"},
		{prepared, "type 1 2 list", aside, "0 0 1 0\n"},
		{prepared + "type 1 0 force 0 0 1 abort;", "type 1 2 audit", aside, "0 0 1 abort\n"},
		{prepared + "type 1 0 force 0 0 1 commit;", "type 1 0 audit", low, "0 0 1 commit\n"},
		{committed + "type 1 0 force 0 0 1 abort; deliver 0 1 0 0;", "type 1 1 audit", high, "0 0 1 abort damage\n"},
		{prepared + "type 1 0 force 0 0 1 abort;", "type 0 0 audit", low, ""},
		{prepared, "type 1 0 force 0 0 1 abort", low, "forced\n"},
		{prepared, "type 1 0 force 0 0 1 commit", low, "forced\n"},
		{prepared, "type 1 0 force 0 0 2 commit", low, "unknown\n"},
		{prepared, "type 1 0 force 0 1 1 commit", low, "unknown\n"},
		{prepared, "type 1 0 force 0 3 1 commit", low, "unknown\n"},
		{prepared, "type 1 0 force 0 0 0 commit", low, "unknown\n"},
		{prepared, "type 0 0 force 0 0 1 commit", low, "unknown\n"},
		{prepared + "type 1 0 force 0 0 1 abort;", "type 1 0 force 0 0 1 abort", low, "unknown\n"},
		{begun + "ask 0 0 get 1 0 1; deliver 0 1 0 0;", "type 1 0 force 0 0 1 abort", low, "unknown\n"},
		{prepared, "type 1 1 force 0 0 1 commit", high, "denied\n"},
		{prepared, "type 1 0 force 1 0 1 commit", low, "denied\n"},
		{prepared, "type 1 2 force 1 0 1 commit", aside, "denied\n"},
		{prepared, "type 1 0 force 5 0 1 commit", low, "denied\n"},
		{prepared, "type 1 1 force 1 0 1 commit", high, "unknown\n"},
		{"", "type 0 0 what", low, "error\n"},
		{prepared, "type 1 0 force 0 0 1", low, "error\n"},
		{prepared, "type 1 0 force 6 0 1 commit", low, "error\n"},
		{prepared, "type 1 0 force 0 4 1 commit", low, "error\n"},
		{"crash 0;", "type 0 0 list", low, "down\n"},
		{"crash 0;", "type 0 0 what", low, "down\n"},
		{"crash 0;", "type 0 0 force 1 0 1 commit", low, "down\n"},
		{"crash 0;", "type 1 0 status 0 0 1", low, "unknown\n"},
		{prepared + "crash 1; start 1;", "type 1 0 status 0 0 1", low, "prepared\n"},
	} {
		was, now := play(t, x.script), play(t, x.script+x.typed)
		for l := range conf().Labels {
			got := now.Views[l].Console[len(was.Views[l].Console):]
			if l != x.l {
				is(t, x.typed+": another label", got, "[]")
			} else if len(got) != 1 || got[0] != x.want {
				t.Errorf("%s: %q; want %q", x.typed, got, x.want)
			}
		}
	}
}

// TestTypeWrong: P11.7: what Read refuses is an error, byte for byte.
func TestTypeWrong(t *testing.T) {
	for _, line := range []string{"", " ", "list ", " list", "LIST", "list\n", "\x00", "audit\xff", "status 0 0", "status 00 0 1", "force 0 0 1 yes", strings.Repeat("x", api.MaxLine)} {
		o := run(t, conf(), []api.Act{{Kind: api.Type, Site: 1, Label: high, Line: line}})
		if l := o.Views[high].Console; len(l) != 1 || l[0] != "error\n" {
			t.Errorf("%q: %q", line, l)
		}
	}
}

// TestTypeNothing: P11.7: what is not forced changes nothing but the label's console.
func TestTypeNothing(t *testing.T) {
	for _, typed := range []string{"list", "audit", "status 0 0 1", "force 1 0 1 abort", "force 0 0 2 abort", "what"} {
		was, now := play(t, done), play(t, done+"type 1 0 "+typed)
		now.Views[low].Console = nil
		if !same(now, was) {
			t.Errorf("%s: %v; want %v", typed, now, was)
		}
	}
}

// TestForce: P11.7: it is done at the site where it is typed, and nowhere else.
func TestForce(t *testing.T) {
	both := begun + "ask 0 0 put 1 1 7; deliver 0 1 0 0; deliver 1 0 0 0; ask 0 0 put 1 0 6; deliver 0 0 0 0;"
	v := play(t, both+"type 1 0 force 0 0 1 commit").Views[low]
	is(t, "stores", v.Stores, "[{[] [{{0 1} 0 true 6 2}] [{{0 1} 0}] []} {[{1 7 1}] [] [] [{0 1}]}]")
	is(t, "notes", v.Notes, "[[] [{{0 1} true false}]]")
	v = play(t, both+"type 1 0 force 0 0 1 abort").Views[low]
	is(t, "stores", v.Stores, "[{[] [{{0 1} 0 true 6 2}] [{{0 1} 0}] []} {[] [] [] [{0 1}]}]")
	is(t, "notes", v.Notes, "[[] [{{0 1} false false}]]")
}

// TestForceFull: P11.7: with MaxAudit notes nothing more is forced; what could not be forced anyway is unknown even then.
func TestForceFull(t *testing.T) {
	text := ""
	for n := 1; n <= api.MaxAudit+1; n++ {
		text += fmt.Sprintf("ask 0 0 begin; ask 0 0 put %d 0 7; deliver 0 0 0 0; deliver 0 0 0 0; type 0 0 force 0 0 %d abort; ask 0 0 rollback %d; drop 0 0 0 0;", n, n, n)
	}
	text += fmt.Sprintf("type 0 0 force 0 0 99 abort; type 0 0 force 0 0 %d commit; type 0 0 status 0 0 %d", api.MaxAudit+1, api.MaxAudit+1)
	v := play(t, text).Views[low]
	want := append(slices.Repeat([]string{"forced\n"}, api.MaxAudit), "full\n", "unknown\n", "full\n", "prepared\n")
	if !same(v.Console, want) {
		t.Errorf("%q; want %q", v.Console, want)
	}
	is(t, "notes", len(v.Notes[0]), fmt.Sprint(api.MaxAudit))
}
