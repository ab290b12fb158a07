package label_test

import (
	"math"
	"testing"

	"reredos/api"
	"reredos/label"
)

// diamond: place 0 is the lowest, 1 and 2 do not see each other, 3 sees all.
func diamond() api.Config {
	return api.Config{
		Sites:    3,
		Labels:   []api.Label{{Level: 0, Cats: 0}, {Level: 1, Cats: 1}, {Level: 1, Cats: 2}, {Level: 2, Cats: 3}},
		Patience: 4,
	}
}

// badConfigs: one for each way in which a config may not be, with the error that it is refused with.
func badConfigs() []struct {
	name string
	c    api.Config
	want api.Errno
} {
	one := []api.Label{{}}
	many := make([]api.Label, api.MaxLabels+1)
	for i := range many {
		many[i].Level = i
	}
	twiceThenBad := []api.Label{{Level: 1}, {Level: 1}, {Level: -1}}
	badThenTwice := []api.Label{{Level: 1}, {Level: -1}, {Level: 1}}
	return []struct {
		name string
		c    api.Config
		want api.Errno
	}{
		{"nothing", api.Config{}, api.ErrRange},
		{"no site", api.Config{Sites: 0, Labels: one, Patience: 1}, api.ErrRange},
		{"sites below 0", api.Config{Sites: math.MinInt, Labels: one, Patience: 1}, api.ErrRange},
		{"too many sites", api.Config{Sites: api.MaxSites + 1, Labels: one, Patience: 1}, api.ErrRange},
		{"no label", api.Config{Sites: 1, Patience: 1}, api.ErrSize},
		{"an empty list of labels", api.Config{Sites: 1, Labels: []api.Label{}, Patience: 1}, api.ErrSize},
		{"too many labels", api.Config{Sites: 1, Labels: many, Patience: 1}, api.ErrSize},
		{"level below 0", api.Config{Sites: 1, Labels: []api.Label{{Level: -1}}, Patience: 1}, api.ErrRange},
		{"level too great", api.Config{Sites: 1, Labels: []api.Label{{}, {Level: api.MaxLevel + 1}}, Patience: 1}, api.ErrRange},
		{"cats below 0", api.Config{Sites: 1, Labels: []api.Label{{Cats: -1}}, Patience: 1}, api.ErrRange},
		{"cats too great", api.Config{Sites: 1, Labels: []api.Label{{}, {Cats: api.MaxCats + 1}}, Patience: 1}, api.ErrRange},
		{"twice, side by side", api.Config{Sites: 1, Labels: []api.Label{{Level: 2, Cats: 3}, {Level: 2, Cats: 3}}, Patience: 1}, api.ErrTwice},
		{"twice, far apart", api.Config{Sites: 1, Labels: []api.Label{{Cats: 1}, {Cats: 2}, {Cats: 1}}, Patience: 1}, api.ErrTwice},
		{"patience 0", api.Config{Sites: 1, Labels: one, Patience: 0}, api.ErrRange},
		{"patience below 0", api.Config{Sites: 1, Labels: one, Patience: -1}, api.ErrRange},
		{"patience too great", api.Config{Sites: 1, Labels: one, Patience: api.MaxAge + 1}, api.ErrRange},
		{"sites tell ahead of labels", api.Config{Sites: 0, Patience: 1}, api.ErrRange},
		{"the number of labels tells ahead of each", api.Config{Sites: 1, Labels: append([]api.Label{{Level: -1}}, many...), Patience: 1}, api.ErrSize},
		{"the number of labels tells ahead of patience", api.Config{Sites: 1}, api.ErrSize},
		{"twice tells ahead of a later label's range", api.Config{Sites: 1, Labels: twiceThenBad, Patience: 1}, api.ErrTwice},
		{"a range tells ahead of a later label's twice", api.Config{Sites: 1, Labels: badThenTwice, Patience: 1}, api.ErrRange},
		{"a range tells ahead of its own twice", api.Config{Sites: 1, Labels: []api.Label{{Level: -1}, {Level: -1}}, Patience: 1}, api.ErrRange},
		{"twice tells ahead of patience", api.Config{Sites: 1, Labels: []api.Label{{}, {}}, Patience: 0}, api.ErrTwice},
	}
}

func TestAbove(t *testing.T) { // P1.1
	for _, x := range []struct {
		a, b api.Label
		want bool
	}{
		{api.Label{}, api.Label{}, true},
		{api.Label{Level: 2, Cats: 3}, api.Label{Level: 2, Cats: 3}, true},
		{api.Label{Level: 2, Cats: 3}, api.Label{Level: 1, Cats: 2}, true},
		{api.Label{Level: 2, Cats: 3}, api.Label{Level: 2, Cats: 1}, true},
		{api.Label{Level: 3, Cats: 3}, api.Label{Level: 2, Cats: 3}, true},
		{api.Label{Level: 1, Cats: 3}, api.Label{Level: 2, Cats: 3}, false},
		{api.Label{Level: 1, Cats: 3}, api.Label{Level: 2, Cats: 1}, false},
		{api.Label{Level: 9, Cats: 1}, api.Label{Level: 1, Cats: 2}, false},
		{api.Label{Level: 9, Cats: 4}, api.Label{Level: 1, Cats: 3}, false},
		{api.Label{Level: 1, Cats: 5}, api.Label{Level: 1, Cats: 6}, false},
		{api.Label{Level: 0}, api.Label{Level: -1}, true},
		{api.Label{Level: -1}, api.Label{Level: 0}, false},
		{api.Label{Level: math.MaxInt, Cats: -1}, api.Label{Level: math.MinInt, Cats: math.MinInt}, true},
		{api.Label{Level: math.MaxInt, Cats: math.MaxInt}, api.Label{Level: math.MinInt, Cats: math.MinInt}, false},
		{api.Label{Level: 0, Cats: math.MaxInt}, api.Label{Level: 0, Cats: -1}, false},
		{api.Label{Level: math.MinInt}, api.Label{Level: math.MaxInt}, false},
	} {
		if got := label.Above(x.a, x.b); got != x.want {
			t.Errorf("Above(%v, %v) = %v, want %v", x.a, x.b, got, x.want)
		}
	}
}

func TestJoinAndMeet(t *testing.T) { // P1.1
	for _, x := range []struct{ a, b, join, meet api.Label }{
		{api.Label{}, api.Label{}, api.Label{}, api.Label{}},
		{api.Label{Level: 2, Cats: 1}, api.Label{Level: 1, Cats: 2}, api.Label{Level: 2, Cats: 3}, api.Label{Level: 1}},
		{api.Label{Level: 2, Cats: 5}, api.Label{Level: 7, Cats: 6}, api.Label{Level: 7, Cats: 7}, api.Label{Level: 2, Cats: 4}},
		{api.Label{Level: -3, Cats: -1}, api.Label{Level: -2, Cats: 9}, api.Label{Level: -2, Cats: -1}, api.Label{Level: -3, Cats: 9}},
		{
			api.Label{Level: math.MinInt, Cats: math.MinInt}, api.Label{Level: math.MaxInt, Cats: math.MaxInt},
			api.Label{Level: math.MaxInt, Cats: -1}, api.Label{Level: math.MinInt},
		},
	} {
		for _, p := range [][2]api.Label{{x.a, x.b}, {x.b, x.a}} {
			if got := label.Join(p[0], p[1]); got != x.join {
				t.Errorf("Join(%v, %v) = %v, want %v", p[0], p[1], got, x.join)
			}
			if got := label.Meet(p[0], p[1]); got != x.meet {
				t.Errorf("Meet(%v, %v) = %v, want %v", p[0], p[1], got, x.meet)
			}
		}
	}
}

// smallLabels: all of few levels and categories, some of them below 0.
func smallLabels() []api.Label {
	var l []api.Label
	for level := -1; level <= 2; level++ {
		for cats := -2; cats <= 3; cats++ {
			l = append(l, api.Label{Level: level, Cats: cats})
		}
	}
	return l
}

// TestLattice: Join is the least label that dominates both, Meet the greatest one that both dominate.
func TestLattice(t *testing.T) { // P1.1
	for _, a := range smallLabels() {
		for _, b := range smallLabels() {
			j, m := label.Join(a, b), label.Meet(a, b)
			for _, x := range smallLabels() {
				if label.Above(x, j) != (label.Above(x, a) && label.Above(x, b)) {
					t.Fatalf("Join(%v, %v) = %v is not the least one: %v", a, b, j, x)
				}
				if label.Above(m, x) != (label.Above(a, x) && label.Above(b, x)) {
					t.Fatalf("Meet(%v, %v) = %v is not the greatest one: %v", a, b, m, x)
				}
			}
		}
	}
}

func TestCheckTakes(t *testing.T) { // P1.2
	full := make([]api.Label, api.MaxLabels)
	for i := range full {
		full[i] = api.Label{Level: api.MaxLevel, Cats: api.MaxCats - i}
	}
	for _, c := range []api.Config{
		diamond(),
		{Sites: 1, Labels: []api.Label{{}}, Patience: 1},
		{Sites: api.MaxSites, Labels: full, Patience: api.MaxAge},
		{Sites: 2, Labels: []api.Label{{Level: 1, Cats: 2}, {Level: 2, Cats: 1}, {Level: 1, Cats: 1}}, Patience: 3},
	} {
		if e := label.Check(c); e != api.OK {
			t.Errorf("Check(%v) = %v, want OK", c, e)
		}
	}
}

func TestCheckRefuses(t *testing.T) { // P1.2
	for _, x := range badConfigs() {
		if e := label.Check(x.c); e != x.want {
			t.Errorf("%s: Check = %v, want %v", x.name, e, x.want)
		}
	}
}

func TestSees(t *testing.T) { // P1.3
	want := [4][4]bool{
		{true, false, false, false},
		{true, true, false, false},
		{true, false, true, false},
		{true, true, true, true},
	}
	for a := range want {
		for b := range want[a] {
			if got, e := label.Sees(diamond(), a, b); got != want[a][b] || e != api.OK {
				t.Errorf("Sees(%d, %d) = %v, %v, want %v, OK", a, b, got, e, want[a][b])
			}
		}
	}
}

func TestSeesRefuses(t *testing.T) { // P1.3
	for _, p := range [][2]int{{4, 0}, {0, 4}, {-1, 0}, {3, -1}, {-1, 4}, {math.MaxInt, 0}, {0, math.MinInt}} {
		if got, e := label.Sees(diamond(), p[0], p[1]); got || e != api.ErrNone {
			t.Errorf("Sees(%d, %d) = %v, %v, want false, ErrNone", p[0], p[1], got, e)
		}
	}
	for _, x := range badConfigs() {
		for _, p := range [][2]int{{0, 0}, {-1, 99}} {
			if got, e := label.Sees(x.c, p[0], p[1]); got || e != x.want {
				t.Errorf("%s: Sees(%d, %d) = %v, %v, want false, %v", x.name, p[0], p[1], got, e, x.want)
			}
		}
	}
}

func TestHome(t *testing.T) { // P1.4
	for sites := 1; sites <= api.MaxSites; sites++ {
		c := diamond()
		c.Sites = sites
		for key := range api.Keys {
			if got, e := label.Home(c, key); got != key%sites || e != api.OK {
				t.Errorf("Home of %d, %d sites = %d, %v, want %d, OK", key, sites, got, e, key%sites)
			}
		}
	}
}

func TestHomeRefuses(t *testing.T) { // P1.4
	for _, key := range []int{-1, api.Keys, math.MinInt, math.MaxInt} {
		if got, e := label.Home(diamond(), key); got != 0 || e != api.ErrRange {
			t.Errorf("Home(%d) = %d, %v, want 0, ErrRange", key, got, e)
		}
	}
	for _, x := range badConfigs() {
		for _, key := range []int{1, -1} {
			if got, e := label.Home(x.c, key); got != 0 || e != x.want {
				t.Errorf("%s: Home(%d) = %d, %v, want 0, %v", x.name, key, got, e, x.want)
			}
		}
	}
}
