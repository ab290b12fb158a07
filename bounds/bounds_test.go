package bounds_test

import (
	"math"
	"testing"

	"reredos/api"
	"reredos/bounds"
)

var conf = api.Config{Sites: 3, Labels: []api.Label{{}, {Level: 1}}, Patience: 1}

// TestEdges: for each bound the last numbers inside and the first ones outside.
func TestEdges(t *testing.T) {
	for _, x := range []struct {
		what      string
		is        func(n int) bool
		low, high int
	}{
		{"Within", func(n int) bool { return bounds.Within(n, -3, 7) }, -3, 7},
		{"Site", func(n int) bool { return bounds.Site(conf, n) }, 0, 2},
		{"Label", func(n int) bool { return bounds.Label(conf, n) }, 0, 1},
		{"Key", bounds.Key, 0, api.Keys - 1},
		{"Value", bounds.Value, 0, api.MaxValue},
		{"Txn's Site", func(n int) bool { return bounds.Txn(api.Txn{Site: n, N: 1}, 3) }, 0, 2},
		{"Txn's N", func(n int) bool { return bounds.Txn(api.Txn{N: n}, 3) }, 1, api.MaxNumber},
		{"Rising", func(n int) bool { return bounds.Rising(conf, []int{n}) }, 0, 2},
	} {
		for _, n := range []int{x.low, x.high} {
			if !x.is(n) {
				t.Errorf("%s refuses %d", x.what, n)
			}
		}
		for _, n := range []int{x.low - 1, x.high + 1, math.MinInt, math.MaxInt} {
			if x.is(n) {
				t.Errorf("%s takes %d", x.what, n)
			}
		}
	}
}

func TestRising(t *testing.T) {
	for _, l := range [][]int{nil, {}, {0}, {2}, {0, 2}, {0, 1, 2}} {
		if !bounds.Rising(conf, l) {
			t.Errorf("%v is refused", l)
		}
	}
	for _, l := range [][]int{{1, 1}, {1, 0}, {0, 3}, {-1, 0}, {0, 2, 1}, {0, math.MaxInt, 1}, {0, 1, 2, 2}} {
		if bounds.Rising(conf, l) {
			t.Errorf("%v is taken", l)
		}
	}
}
