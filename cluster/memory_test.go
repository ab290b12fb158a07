package cluster_test

import (
	"fmt"
	"reflect"
	"slices"
	"testing"

	"reredos/api"
)

// span of memory that a list has, with its spare room.
type span struct{ from, to uintptr }

// spans of all lists within a value, those in the spare room of others, too.
func spans(v reflect.Value) []span {
	var l []span
	switch v.Kind() {
	case reflect.Struct:
		for i := range v.NumField() {
			l = append(l, spans(v.Field(i))...)
		}
	case reflect.Slice:
		if v.Cap() > 0 {
			from := v.Pointer()
			l = append(l, span{from, from + uintptr(v.Cap())*v.Type().Elem().Size()})
		}
		whole := v.Slice(0, v.Cap())
		for i := range whole.Len() {
			l = append(l, spans(whole.Index(i))...)
		}
	}
	return l
}

// apart: whether no two of them have a byte in common.
func apart(l []span) bool {
	slices.SortFunc(l, func(a, b span) int {
		if a.from < b.from {
			return -1
		}
		return 1
	})
	for i := 1; i < len(l); i++ {
		if l[i].from < l[i-1].to {
			return false
		}
	}
	return true
}

// whole: all of a list, with its spare room, as a text.
func whole[T any](l []T) string {
	return fmt.Sprintf("%+v", l[:cap(l)])
}

// given: a config and acts, as text, with the spare room of all their lists.
func given(c api.Config, l []api.Act) string {
	s := whole(c.Labels) + whole(l)
	for _, a := range l {
		s += whole(a.Keep)
	}
	return s
}

// roomy: the same list, with spare room in which something stands.
func roomy[T any](l []T, x T) []T {
	return append(slices.Clone(l), x, x, x)[:len(l)]
}

// TestSharesNothing: what is handed in stays, spare room too; no list of an answer shares memory with it, with another list of that answer, or with another answer; and the same is answered each time.
func TestSharesNothing(t *testing.T) {
	d := die(7)
	for range 100 {
		c := d.config()
		l := d.script(c, 20+d.n(100), true)
		c.Labels = roomy(c.Labels, api.Label{Level: 7})
		l = roomy(l, api.Act{Kind: 7})
		for i := range l {
			l[i].Keep = roomy(l[i].Keep, 7)
		}
		was := given(c, l)
		first, second := run(t, c, l), run(t, c, l)
		if given(c, l) != was {
			t.Fatal("what was handed in was changed")
		}
		if !same(first, second) {
			t.Fatalf("%v, then %v", first, second)
		}
		all := slices.Concat(spans(reflect.ValueOf(first)), spans(reflect.ValueOf(second)), spans(reflect.ValueOf(c)), spans(reflect.ValueOf(l)))
		if !apart(all) {
			t.Fatal("memory is shared")
		}
	}
}

// TestSpans: the test above finds what is shared.
func TestSpans(t *testing.T) {
	l := make([]api.Task, 4)
	for _, x := range []struct {
		fates []api.Fate
		want  bool
	}{
		{[]api.Fate{{Tasks: l}, {Tasks: slices.Clone(l)}}, true},
		{[]api.Fate{{Tasks: l[:2:2]}, {Tasks: l[2:]}}, true},
		{[]api.Fate{{Tasks: l[:2]}, {Tasks: l[2:]}}, false},
		{[]api.Fate{{Tasks: l}, {Tasks: l}}, false},
		{[]api.Fate{{Tasks: l}, {Tasks: l}}[:1], false},
	} {
		if got := apart(spans(reflect.ValueOf(api.Outcome{Fates: x.fates}))); got != x.want {
			t.Errorf("%v: %v", x.fates, got)
		}
	}
}
