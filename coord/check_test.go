package coord_test

import (
	"fmt"
	"math"
	"testing"

	"reredos/api"
	"reredos/coord"
)

// here: the label whose desk most tests ask: it dominates low and itself alone.
const (
	low   = 0
	here  = 1
	above = 2
	aside = 3 // it dominates low; neither it nor here dominates the other one
)

func conf() api.Config {
	return api.Config{Sites: 3, Labels: []api.Label{{}, {Level: 1}, {Level: 2, Cats: 1}, {Cats: 2}}, Patience: 3}
}

// badConfigs: each with what label's Check says of it.
func badConfigs() map[api.Errno]api.Config {
	size, twice, bound := conf(), conf(), conf()
	size.Labels = nil
	twice.Labels = []api.Label{{}, {Level: 1}, {}, {Cats: 2}}
	bound.Patience = 0
	return map[api.Errno]api.Config{api.ErrSize: size, api.ErrTwice: twice, api.ErrRange: bound}
}

// read that is done.
func read(l, key, value, version, ask int) api.Task {
	return api.Task{Label: l, Key: key, Value: value, Version: version, Ask: ask, Done: true}
}

// write that is done.
func write(key, value, ask int) api.Task {
	return api.Task{Write: true, Label: here, Key: key, Value: value, Ask: ask, Done: true}
}

// sure: the same task, asked again.
func sure(t api.Task) api.Task {
	t.Sure = true
	return t
}

// open: the same task, not done.
func open(t api.Task) api.Task {
	t.Done = false
	return t
}

// active job that has read and written, and waits for nothing. Its hands are the sites 0 and 1.
func active() api.Job {
	return api.Job{N: 5, State: api.Active, Asks: 6, Age: 1, Tasks: []api.Task{read(here, 1, 10, 2, 1), write(0, 30, 3), read(low, 5, 7, 4, 6)}}
}

// getting: a job that waits for a read, of here. Its hands are the sites 1 and 2.
func getting() api.Job {
	return api.Job{N: 5, State: api.Active, Asks: 4, Age: 1, Tasks: []api.Task{write(4, 40, 1), open(read(here, 2, 0, 0, 4))}}
}

// putting: a job that waits for a write. Its hands are the sites 0 and 1.
func putting() api.Job {
	return api.Job{N: 5, State: api.Active, Asks: 9, Age: 1, Tasks: []api.Task{read(low, 2, 1, 1, 2), read(here, 6, 0, 0, 3), open(write(7, 70, 9))}}
}

// checking: a job of which some reads are asked after; two are the same. Its hands are the sites 0 and 1.
func checking() api.Job {
	return api.Job{N: 5, State: api.Checking, Asks: 7, Age: 1, Tasks: []api.Task{
		read(here, 1, 10, 2, 1), sure(read(low, 5, 7, 4, 2)), write(0, 30, 3), read(here, 1, 10, 2, 5), read(low, 1, 9, 2, 7),
	}}
}

// telling: a job that is committed; the sites 0 and 2 are to know.
func telling() api.Job {
	return api.Job{N: 5, State: api.Telling, Asks: 2, Age: 1, Asked: []int{0, 2}, Tasks: []api.Task{write(3, 1, 1), sure(read(here, 1, 0, 0, 2))}}
}

// first and last: jobs that stand beside the one that is asked after.
func first() api.Job {
	return api.Job{N: 2, State: api.Active, Asks: 3, Tasks: []api.Task{open(read(low, 4, 0, 0, 3))}}
}

func last() api.Job {
	return api.Job{N: 9, State: api.Telling, Asked: []int{1}}
}

// among: a desk with these jobs, between two others.
func among(l ...api.Job) api.Desk {
	return api.Desk{Next: 20, Jobs: append(append([]api.Job{first()}, l...), last())}
}

// crowd: a desk with so many jobs.
func crowd(n int) api.Desk {
	d := api.Desk{Next: 100}
	for i := range n {
		d.Jobs = append(d.Jobs, api.Job{N: 10 + i, State: api.Active})
	}
	return d
}

// busy: a job with so many tasks, all of them done.
func busy(n int) api.Job {
	j := api.Job{N: 5, State: api.Active, Asks: 100}
	for i := range n {
		j.Tasks = append(j.Tasks, read(low, i%api.Keys, i, i, 1+2*i))
	}
	return j
}

// changed job.
func changed(j api.Job, f func(j *api.Job)) api.Job {
	f(&j)
	return j
}

// one job on a desk of its own, with the highest Next that may be.
func one(j api.Job) api.Desk {
	return api.Desk{Next: api.MaxNumber + 1, Jobs: []api.Job{j}}
}

// with: the desk of a job one of whose tasks is changed.
func with(j api.Job, i int, f func(t *api.Task)) api.Desk {
	f(&j.Tasks[i])
	return one(j)
}

// TestCheckTakes: P7.1: desks that may be.
func TestCheckTakes(t *testing.T) {
	for what, d := range map[string]api.Desk{
		"no jobs":              {Next: 1},
		"no jobs, not nil":     {Next: 7, Jobs: []api.Job{}},
		"some":                 among(active()),
		"getting":              among(getting()),
		"putting":              among(putting()),
		"checking":             among(checking()),
		"telling":              among(telling()),
		"MaxTxns":              crowd(api.MaxTxns),
		"MaxTasks":             one(busy(api.MaxTasks)),
		"Ns side by side":      {Next: 3, Jobs: []api.Job{{N: 1, State: api.Active}, {N: 2, State: api.Checking}}},
		"told, without tasks":  one(api.Job{N: 1, State: api.Telling, Asked: []int{0, 1, 2}}),
		"Asked, empty":         one(api.Job{N: 1, State: api.Active, Asked: []int{}, Tasks: []api.Task{}}),
		"a sure Write":         with(active(), 1, func(t *api.Task) { t.Sure = true }),
		"a Write of no label":  with(active(), 1, func(t *api.Task) { t.Label = low }),
		"a read from above":    with(active(), 0, func(t *api.Task) { t.Label = above }),
		"a Write with Version": with(active(), 1, func(t *api.Task) { t.Version = 3 }),
		"an open one, too":     with(putting(), 2, func(t *api.Task) { t.Version = 3 }),
		"its Value 0":          with(putting(), 2, func(t *api.Task) { t.Value = 0 }),
		"open, and alone":      one(api.Job{N: 1, State: api.Active, Asks: 1, Tasks: []api.Task{open(read(low, 0, 0, 0, 1))}}),
	} {
		if e := coord.Check(conf(), d); e != api.OK {
			t.Errorf("%s: %v: %v", what, d, e)
		}
	}
}

// TestCheckBounds: P7.1: of each number the last ones inside and the first ones outside.
func TestCheckBounds(t *testing.T) {
	for _, x := range []struct {
		what      string
		low, high int
		desk      func(n int) api.Desk
	}{
		{"Next", 1, api.MaxNumber + 1, func(n int) api.Desk { return api.Desk{Next: n} }},
		{"N", 1, 6, func(n int) api.Desk { return api.Desk{Next: 7, Jobs: []api.Job{{N: n, State: api.Active}}} }},
		{"the highest N", 1, api.MaxNumber, func(n int) api.Desk { return one(api.Job{N: n, State: api.Active}) }},
		{"Age", 0, api.MaxAge, func(n int) api.Desk { return one(changed(active(), func(j *api.Job) { j.Age = n })) }},
		{"State", api.Active, api.Checking, func(n int) api.Desk { return one(api.Job{N: 1, State: n}) }},
		{"State, with Asked", api.Telling, api.Telling, func(n int) api.Desk { return one(api.Job{N: 1, State: n, Asked: []int{0}}) }},
		{"Asks", 0, api.MaxNumber, func(n int) api.Desk { return one(api.Job{N: 1, State: api.Active, Asks: n}) }},
		{"Asks, with tasks", 6, api.MaxNumber, func(n int) api.Desk { return one(changed(active(), func(j *api.Job) { j.Asks = n })) }},
		{"the first Ask", 1, 2, func(n int) api.Desk { return with(active(), 0, func(t *api.Task) { t.Ask = n }) }},
		{"another Ask", 2, 5, func(n int) api.Desk { return with(active(), 1, func(t *api.Task) { t.Ask = n }) }},
		{"the last Ask", 4, 6, func(n int) api.Desk { return with(active(), 2, func(t *api.Task) { t.Ask = n }) }},
		{"Label", 0, 3, func(n int) api.Desk { return with(active(), 1, func(t *api.Task) { t.Label = n }) }},
		{"Key", 0, api.Keys - 1, func(n int) api.Desk { return with(active(), 2, func(t *api.Task) { t.Key = n }) }},
		{"Value of a read", 0, api.MaxValue, func(n int) api.Desk { return with(active(), 0, func(t *api.Task) { t.Value = n }) }},
		{"Value of a Write", 0, api.MaxValue, func(n int) api.Desk { return with(active(), 1, func(t *api.Task) { t.Value = n }) }},
		{"Value of an open Write", 0, api.MaxValue, func(n int) api.Desk { return with(putting(), 2, func(t *api.Task) { t.Value = n }) }},
		{"Value of an open read", 0, 0, func(n int) api.Desk { return with(getting(), 1, func(t *api.Task) { t.Value = n }) }},
		{"Version of a read", 0, api.MaxVersion, func(n int) api.Desk { return with(active(), 0, func(t *api.Task) { t.Version = n }) }},
		{"Version of a Write", 0, api.MaxVersion, func(n int) api.Desk { return with(active(), 1, func(t *api.Task) { t.Version = n }) }},
		{"Version of an open read", 0, 0, func(n int) api.Desk { return with(getting(), 1, func(t *api.Task) { t.Version = n }) }},
		{"Asked", 0, 2, func(n int) api.Desk { return one(api.Job{N: 1, State: api.Telling, Asked: []int{n}}) }},
		{"Asked behind another one", 1, 2, func(n int) api.Desk { return one(api.Job{N: 1, State: api.Telling, Asked: []int{0, n}}) }},
	} {
		for _, n := range []int{x.low, x.high} {
			if e := coord.Check(conf(), x.desk(n)); e != api.OK {
				t.Errorf("%s %d: %v", x.what, n, e)
			}
		}
		for _, n := range []int{x.low - 1, x.high + 1, math.MinInt, math.MaxInt} {
			if e := coord.Check(conf(), x.desk(n)); e != api.ErrState {
				t.Errorf("%s %d: %v", x.what, n, e)
			}
		}
	}
}

// badDesks: that may not be, each for one thing.
func badDesks() map[string]api.Desk {
	return map[string]api.Desk{
		"nothing":                      {},
		"more than MaxTxns":            crowd(api.MaxTxns + 1),
		"twice":                        {Next: 20, Jobs: []api.Job{first(), first()}},
		"not by N":                     {Next: 20, Jobs: []api.Job{active(), first()}},
		"the last one not by N":        {Next: 20, Jobs: []api.Job{first(), active(), {N: 4, State: api.Active}}},
		"the last one is Next":         {Next: 9, Jobs: []api.Job{first(), last()}},
		"only the last one may not be": {Next: 20, Jobs: []api.Job{first(), {N: 9, State: api.Telling}}},
		"more than MaxTasks":           one(busy(api.MaxTasks + 1)),
		"Asks twice":                   with(busy(3), 2, func(t *api.Task) { t.Ask = 3 }),
		"Asks that fall":               with(busy(3), 2, func(t *api.Task) { t.Ask = 2 }),
		"sure, and not Done":           with(getting(), 1, func(t *api.Task) { t.Sure = true }),
		"a Write so":                   with(putting(), 2, func(t *api.Task) { t.Sure = true }),
		"not Done, and not the last":   with(putting(), 0, func(t *api.Task) { t.Done, t.Value, t.Version = false, 0, 0 }),
		"a Write that is":              with(active(), 1, func(t *api.Task) { t.Done = false }),
		"not Done, and Checking":       one(changed(getting(), func(j *api.Job) { j.State = api.Checking })),
		"not Done, and Telling":        one(changed(putting(), func(j *api.Job) { j.State, j.Asked = api.Telling, []int{0} })),
		"Asked of an Active":           one(changed(active(), func(j *api.Job) { j.Asked = []int{0} })),
		"Asked of a Checking":          one(changed(checking(), func(j *api.Job) { j.Asked = []int{0} })),
		"a Telling without Asked":      one(changed(telling(), func(j *api.Job) { j.Asked = nil })),
		"Asked twice":                  one(changed(telling(), func(j *api.Job) { j.Asked = []int{1, 1} })),
		"Asked that fall":              one(changed(telling(), func(j *api.Job) { j.Asked = []int{2, 0} })),
		"too many Asked":               one(changed(telling(), func(j *api.Job) { j.Asked = []int{0, 1, 2, 3} })),
	}
}

func TestCheckRefuses(t *testing.T) {
	for what, d := range badDesks() {
		if e := coord.Check(conf(), d); e != api.ErrState {
			t.Errorf("%s: %v: %v", what, d, e)
		}
	}
}

// TestCheckConfig: P7.1: what is refused of a config, ahead of what is of a desk; and desks hang on it.
func TestCheckConfig(t *testing.T) {
	for want, c := range badConfigs() {
		for _, d := range []api.Desk{{}, {Next: 1}, among(active())} {
			if e := coord.Check(c, d); e != want {
				t.Errorf("%v: %v, want %v", c, e, want)
			}
		}
	}
	few := api.Config{Sites: 2, Labels: []api.Label{{}, {Level: 1}}, Patience: 1}
	for _, x := range []struct {
		d    api.Desk
		want api.Errno
	}{
		{one(active()), api.OK},
		{with(active(), 0, func(t *api.Task) { t.Label = above }), api.ErrState},
		{one(telling()), api.ErrState},
		{one(changed(telling(), func(j *api.Job) { j.Asked = []int{0, 1} })), api.OK},
	} {
		if e := coord.Check(few, x.d); e != x.want {
			t.Errorf("%v: %v, want %v", x.d, e, x.want)
		}
	}
}

// same: whether lists are nil or empty does not count.
func same(a, b any) bool {
	return fmt.Sprint(a) == fmt.Sprint(b)
}

// refused: the error, and nothing beside it.
func refused(t *testing.T, what string, a api.Turn, e, want api.Errno) {
	t.Helper()
	if e != want || !same(a, api.Turn{}) {
		t.Errorf("%s: %v, %v; want %v", what, a, e, want)
	}
}

// answered as it should be.
func answered(t *testing.T, what string, a api.Turn, e api.Errno, want api.Turn) {
	t.Helper()
	if e != api.OK || !same(a, want) {
		t.Errorf("%s:\n%v, %v; want\n%v", what, a, e, want)
	}
}
