package cluster_test

import (
	"fmt"
	"testing"

	"reredos/api"
)

// TestExample: the document's example of the whole, one act at a time: one site, and one label.
func TestExample(t *testing.T) {
	c := api.Config{Sites: 1, Labels: []api.Label{{}}, Patience: 3}
	text := ""
	for _, x := range []struct{ act, flying, replies, items, locks, fates string }{
		{"ask 0 0 begin;", "[]", "[{0 1 1 0 0 refused 0}]", "[]", "[]", "[]"},
		{"ask 0 0 put 1 2 5;", "[2]", "[]", "[]", "[]", "[]"},
		{"deliver 0 0 0 0;", "[6]", "[]", "[]", "[{{0 1} 2 true 5 1}]", "[]"},
		{"deliver 0 0 0 0;", "[]", "[{0 3 1 2 0 refused 0}]", "[]", "[{{0 1} 2 true 5 1}]", "[]"},
		{"ask 0 0 commit 1;", "[4]", "[{0 4 1 0 0 refused 0}]", "[]", "[{{0 1} 2 true 5 1}]", "[{0 {0 1} [{true 0 2 5 0 1 true false}]}]"},
		{"deliver 0 0 0 0;", "[8]", "[]", "[{2 5 1}]", "[]", "[{0 {0 1} [{true 0 2 5 0 1 true false}]}]"},
		{"deliver 0 0 0 0;", "[]", "[]", "[{2 5 1}]", "[]", "[{0 {0 1} [{true 0 2 5 0 1 true false}]}]"},
	} {
		n := len(run(t, c, actsOf(t, c, text)).Views[0].Replies)
		text += x.act
		o := run(t, c, actsOf(t, c, text))
		v := o.Views[0]
		got := fmt.Sprint(kinds(v, c, 0, 0), v.Replies[n:], v.Stores[0].Items, v.Stores[0].Locks, o.Fates)
		is(t, text, got, fmt.Sprint(x.flying, " ", x.replies, " ", x.items, " ", x.locks, " ", x.fates))
	}
}
