package coord_test

import (
	"math"
	"testing"

	"reredos/api"
	"reredos/coord"
)

// me: the site of the desk; its transactions are named after it.
const me = 2

func call(d api.Desk, x api.Call) (api.Turn, api.Errno) {
	return coord.Call(conf(), here, me, d, api.MaxTape, x)
}

// txn: the job with that N.
func txn(n int) api.Txn {
	return api.Txn{Site: me, N: n}
}

// decides: the word about the job 5, to some sites.
func decides(yes bool, sites ...int) []api.Message {
	var l []api.Message
	for _, site := range sites {
		l = append(l, api.Message{Kind: api.Decide, From: me, To: site, Txn: txn(5), Yes: yes})
	}
	return l
}

// reply to a call of the job 5.
func reply(kind, key, value int, code api.Errno) []api.Reply {
	return []api.Reply{{Site: me, Kind: kind, N: 5, Key: key, Value: value, Code: code}}
}

// some calls, at any desk.
func calls() map[string]func(c api.Config, l, site int, d api.Desk) (api.Turn, api.Errno) {
	return map[string]func(c api.Config, l, site int, d api.Desk) (api.Turn, api.Errno){
		"Call": func(c api.Config, l, site int, d api.Desk) (api.Turn, api.Errno) {
			return coord.Call(c, l, site, d, api.MaxTape, api.Call{Kind: api.Begin})
		},
		"Call (no such kind)": func(c api.Config, l, site int, d api.Desk) (api.Turn, api.Errno) {
			return coord.Call(c, l, site, d, api.MaxTape, api.Call{})
		},
		"Hear": func(c api.Config, l, site int, d api.Desk) (api.Turn, api.Errno) {
			return coord.Hear(c, l, site, d, api.Message{Kind: api.Doubts, To: site, Txn: api.Txn{Site: site, N: 1}})
		},
		"Hear (no such kind)": func(c api.Config, l, site int, d api.Desk) (api.Turn, api.Errno) {
			return coord.Hear(c, l, site, d, api.Message{})
		},
		"Tick": func(c api.Config, l, site int, d api.Desk) (api.Turn, api.Errno) {
			return coord.Tick(c, l, site, d)
		},
	}
}

// TestRefusals: P7.2: what all calls refuse, the one named first ahead of the others.
func TestRefusals(t *testing.T) {
	for name, f := range calls() {
		for want, c := range badConfigs() {
			a, e := f(c, -1, -1, api.Desk{})
			refused(t, name+": config", a, e, want)
		}
		for what, d := range badDesks() {
			a, e := f(conf(), here, me, d)
			refused(t, name+": "+what, a, e, api.ErrState)
			a, e = f(conf(), 4, 3, d)
			refused(t, name+": "+what+", and more", a, e, api.ErrState)
		}
		for _, l := range []int{-1, 4, math.MinInt, math.MaxInt} {
			a, e := f(conf(), l, me, among(active()))
			refused(t, name+": label", a, e, api.ErrNone)
			a, e = f(conf(), l, 3, among(active()))
			refused(t, name+": label and site", a, e, api.ErrNone)
		}
		for _, site := range []int{-1, 3, math.MinInt, math.MaxInt} {
			a, e := f(conf(), here, site, among(active()))
			refused(t, name+": site", a, e, api.ErrRange)
		}
	}
}

// TestAllLabelsAndSites: P7.2: each label and each site has its desks.
func TestAllLabelsAndSites(t *testing.T) {
	for l := range conf().Labels {
		for site := range conf().Sites {
			a, e := coord.Call(conf(), l, site, api.Desk{Next: 3}, api.MaxTape, api.Call{Kind: api.Begin})
			answered(t, "Begin", a, e, api.Turn{
				Desk:    api.Desk{Next: 4, Jobs: []api.Job{{N: 3, State: api.Active}}},
				Records: []api.Record{{Kind: api.Began, Txn: api.Txn{Site: site, N: 3}}},
				Replies: []api.Reply{{Site: site, Kind: api.Begin, N: 3}},
			})
			a, e = coord.Tick(conf(), l, site, api.Desk{Next: 3})
			answered(t, "Tick", a, e, api.Turn{Desk: api.Desk{Next: 3}})
			a, e = coord.Hear(conf(), l, site, api.Desk{Next: 3}, api.Message{Kind: api.Doubts, From: 1, To: site, Txn: api.Txn{Site: site, N: 1}})
			answered(t, "Doubts", a, e, api.Turn{
				Desk:     api.Desk{Next: 3},
				Messages: []api.Message{{Kind: api.Decide, From: site, To: 1, Txn: api.Txn{Site: site, N: 1}}},
			})
		}
	}
}

// TestCallKinds: P7.6.
func TestCallKinds(t *testing.T) {
	for _, kind := range []int{0, -1, api.Rollback + 1, math.MinInt, math.MaxInt} {
		a, e := call(among(active()), api.Call{Kind: kind, N: 5})
		refused(t, "kind", a, e, api.ErrKind)
		a, e = call(among(), api.Call{Kind: kind, N: -5, Key: 99})
		refused(t, "kind, and there is no such job", a, e, api.ErrKind)
	}
}

// TestBegin: P7.6: whatever else stands in the call.
func TestBegin(t *testing.T) {
	for _, x := range []api.Call{{}, {N: 5, Label: 77, Key: -3, Value: -1}, {N: math.MinInt, Key: math.MaxInt}} {
		x.Kind = api.Begin
		d := among(active())
		a, e := coord.Call(conf(), here, me, d, api.RoomBegin, x)
		answered(t, "Begin", a, e, api.Turn{
			Desk:    api.Desk{Next: 21, Jobs: append(among(active()).Jobs, api.Job{N: 20, State: api.Active})},
			Records: []api.Record{{Kind: api.Began, Txn: txn(20)}},
			Replies: []api.Reply{{Site: me, Kind: api.Begin, N: 20}},
		})
	}
}

// TestBeginEdges: P7.6: the last jobs and numbers for which there is room.
func TestBeginEdges(t *testing.T) {
	for _, x := range []struct {
		what string
		d    api.Desk
		room int
		full bool
	}{
		{"one job is free", crowd(api.MaxTxns - 1), api.MaxTape, false},
		{"none is", crowd(api.MaxTxns), api.MaxTape, true},
		{"one number is free", api.Desk{Next: api.MaxNumber}, api.MaxTape, false},
		{"none is", one(active()), api.MaxTape, true},
		{"room", api.Desk{Next: 1}, api.RoomBegin, false},
		{"much room", api.Desk{Next: 1}, math.MaxInt, false},
		{"little room", api.Desk{Next: 1}, api.RoomBegin - 1, true},
		{"no room", api.Desk{Next: 1}, 0, true},
		{"less than none", api.Desk{Next: 1}, math.MinInt, true},
	} {
		a, e := coord.Call(conf(), here, me, x.d, x.room, api.Call{Kind: api.Begin, N: 3, Key: 4})
		if x.full {
			answered(t, x.what, a, e, api.Turn{Desk: x.d, Replies: []api.Reply{{Site: me, Kind: api.Begin, Code: api.ErrFull}}})
		} else if e != api.OK || a.Desk.Next != x.d.Next+1 || len(a.Desk.Jobs) != len(x.d.Jobs)+1 || a.Replies[0].N != x.d.Next {
			t.Errorf("%s: %v, %v", x.what, a, e)
		}
	}
}

// TestRoomIsOfBegins: P7.6: no other call asks for room.
func TestRoomIsOfBegins(t *testing.T) {
	for kind := api.Get; kind <= api.Rollback; kind++ {
		x := api.Call{Kind: kind, N: 5}
		a, e := coord.Call(conf(), here, me, among(active()), -1, x)
		want, _ := call(among(active()), x)
		answered(t, "without room", a, e, want)
	}
}

// TestCallsRefused: P7.7: what is refused, in which order.
func TestCallsRefused(t *testing.T) {
	full := busy(api.MaxTasks)
	asked := changed(active(), func(j *api.Job) { j.Asks = api.MaxNumber })
	for _, x := range []struct {
		what string
		j    api.Job
		x    api.Call
		code api.Errno
	}{
		{"no such job", active(), api.Call{N: 6, Label: 9, Key: 9, Value: -1}, api.ErrNone},
		{"no such job", active(), api.Call{N: 0}, api.ErrNone},
		{"below all", active(), api.Call{N: math.MinInt, Key: math.MinInt}, api.ErrNone},
		{"above all", active(), api.Call{N: math.MaxInt, Key: math.MaxInt}, api.ErrNone},
		{"Checking", checking(), api.Call{N: 5, Label: 9, Key: 9, Value: -1}, api.ErrOver},
		{"Telling", telling(), api.Call{N: 5, Label: 9, Key: 9, Value: -1}, api.ErrOver},
		{"a Get waits", getting(), api.Call{N: 5, Label: 9, Key: 9, Value: -1}, api.ErrWait},
		{"a Put waits", putting(), api.Call{N: 5, Label: 9, Key: 9, Value: -1}, api.ErrWait},
	} {
		for kind := api.Get; kind <= api.Rollback; kind++ {
			x.x.Kind = kind
			a, e := call(among(x.j), x.x)
			want := api.Reply{Site: me, Kind: kind, N: x.x.N, Key: x.x.Key, Code: x.code}
			answered(t, x.what, a, e, api.Turn{Desk: among(x.j), Replies: []api.Reply{want}})
		}
	}
	both := []int{api.Get, api.Put}
	for _, x := range []struct {
		what  string
		j     api.Job
		kinds []int
		x     api.Call
		code  api.Errno
	}{
		{"no key", active(), both, api.Call{Key: api.Keys, Label: 9}, api.ErrRange},
		{"no key", full, both, api.Call{Key: -1, Label: 9}, api.ErrRange},
		{"no key", asked, both, api.Call{Key: math.MaxInt}, api.ErrRange},
		{"no value", active(), both, api.Call{Value: -1, Label: 9}, api.ErrRange},
		{"no value", full, both, api.Call{Value: api.MaxValue + 1}, api.ErrRange},
		{"no label", active(), both[:1], api.Call{Label: 4}, api.ErrLabel},
		{"no label", full, both[:1], api.Call{Label: -1, Key: 7}, api.ErrLabel},
		{"no label", asked, both[:1], api.Call{Label: math.MinInt}, api.ErrLabel},
		{"above", full, both[:1], api.Call{Label: above, Key: 1}, api.ErrLabel},
		{"aside", active(), both[:1], api.Call{Label: aside, Key: 1}, api.ErrLabel},
		{"MaxTasks", full, both, api.Call{Label: here, Key: 3}, api.ErrFull},
		{"MaxTasks, of a Put with any Label", full, both[1:], api.Call{Label: 9, Key: 3}, api.ErrFull},
		{"MaxNumber", asked, both, api.Call{Label: low, Key: 3}, api.ErrFull},
	} {
		for _, kind := range x.kinds {
			x.x.Kind, x.x.N = kind, 5
			a, e := call(among(x.j), x.x)
			answered(t, x.what, a, e, api.Turn{Desk: among(x.j), Replies: reply(kind, x.x.Key, 0, x.code)})
		}
	}
}

// TestCommitAndRollbackTakeAnything: P7.7: what a Get and a Put are refused for is nothing to the other two.
func TestCommitAndRollbackTakeAnything(t *testing.T) {
	for _, kind := range []int{api.Commit, api.Rollback} {
		for _, j := range []api.Job{busy(api.MaxTasks), changed(active(), func(j *api.Job) { j.Asks = api.MaxNumber })} {
			a, e := call(among(j), api.Call{Kind: kind, N: 5, Label: 9, Key: -1, Value: -1})
			want, _ := call(among(j), api.Call{Kind: kind, N: 5})
			if len(want.Messages) == 0 && len(want.Replies) == 0 {
				t.Errorf("nothing was done: %v", want)
			}
			answered(t, "anything", a, e, want)
		}
	}
}

// TestGet: P7.8: of labels that are dominated, at each key's site.
func TestGet(t *testing.T) {
	sees := [][]int{low: {low}, here: {low, here}, above: {low, here, above}, aside: {low, aside}}
	for l := range sees {
		for _, of := range sees[l] {
			for key := range api.Keys {
				a, e := coord.Call(conf(), l, me, among(active()), 0, api.Call{Kind: api.Get, N: 5, Label: of, Key: key, Value: api.MaxValue})
				j := changed(active(), func(j *api.Job) {
					j.Tasks = append(j.Tasks, api.Task{Label: of, Key: key, Ask: 7})
					j.Asks, j.Age = 7, 0
				})
				answered(t, "Get", a, e, api.Turn{
					Desk:     among(j),
					Messages: []api.Message{{Kind: api.Read, From: me, To: key % 3, Txn: txn(5), Label: of, Key: key, Ask: 7}},
				})
			}
		}
	}
}

// TestPut: P7.8: of its own label, whatever stands in the call's Label.
func TestPut(t *testing.T) {
	for _, of := range []int{low, here, above, 9, math.MinInt} {
		for _, value := range []int{0, 5, api.MaxValue} {
			for key := range api.Keys {
				a, e := call(among(active()), api.Call{Kind: api.Put, N: 5, Label: of, Key: key, Value: value})
				j := changed(active(), func(j *api.Job) {
					j.Tasks = append(j.Tasks, api.Task{Write: true, Label: here, Key: key, Value: value, Ask: 7})
					j.Asks, j.Age = 7, 0
				})
				answered(t, "Put", a, e, api.Turn{
					Desk:     among(j),
					Messages: []api.Message{{Kind: api.Write, From: me, To: key % 3, Txn: txn(5), Key: key, Value: value, Ask: 7}},
				})
			}
		}
	}
}

// TestLastTask: P7.8: the last task and the last Ask for which there is room.
func TestLastTask(t *testing.T) {
	for _, j := range []api.Job{busy(api.MaxTasks - 1), changed(active(), func(j *api.Job) { j.Asks = api.MaxNumber - 1 })} {
		for _, kind := range []int{api.Get, api.Put} {
			a, e := call(among(j), api.Call{Kind: kind, N: 5, Key: 1})
			if e != api.OK || len(a.Messages) != 1 || a.Messages[0].Ask != j.Asks+1 || coord.Check(conf(), a.Desk) != api.OK {
				t.Errorf("%v: %v, %v", j, a, e)
			}
		}
	}
}

// TestCommitChecks: P7.9: reads that are not sure are asked after, those of lower labels, too, in their order, and as often as they are there.
func TestCommitChecks(t *testing.T) {
	j := active()
	j.Tasks = []api.Task{read(low, 4, 7, 4, 1), sure(read(here, 3, 0, 0, 2)), write(0, 30, 3), read(here, 2, 1, api.MaxVersion, 4), read(here, 2, 1, api.MaxVersion, 5), read(low, 0, 0, 0, 6)}
	a, e := call(among(j), api.Call{Kind: api.Commit, N: 5})
	check := func(l, key, version int) api.Message {
		return api.Message{Kind: api.Check, From: me, To: key % 3, Txn: txn(5), Label: l, Key: key, Version: version}
	}
	answered(t, "Commit", a, e, api.Turn{
		Desk:     among(changed(j, func(j *api.Job) { j.State, j.Age = api.Checking, 0 })),
		Messages: []api.Message{check(low, 4, 4), check(here, 2, api.MaxVersion), check(here, 2, api.MaxVersion), check(low, 0, 0)},
		Sure:     5,
	})
}

// TestCommitAtOnce: P7.9, P7.5, P7.3: a job that has nothing to ask is committed.
func TestCommitAtOnce(t *testing.T) {
	for _, x := range []struct {
		what  string
		tasks []api.Task
		hands []int
		word  bool // whether a Committed is written
	}{
		{"nothing", nil, nil, false},
		{"a lower label, sure", []api.Task{sure(read(low, 0, 1, 1, 1))}, nil, false},
		{"one write", []api.Task{write(4, 1, 1)}, []int{1}, true},
		{"writes, not by their sites", []api.Task{write(5, 1, 1), write(3, 1, 2), write(2, 1, 3), write(0, 9, 5)}, []int{0, 2}, true},
		{"all sites", []api.Task{write(7, 1, 1), write(2, 1, 2), sure(read(here, 6, 1, 1, 3))}, []int{0, 1, 2}, true},
		{"its own label, sure", []api.Task{sure(read(here, 1, 1, 1, 1)), sure(read(low, 2, 1, 1, 4))}, []int{1}, false},
		{"a write, and a lower label", []api.Task{write(6, 1, 1), sure(read(low, 1, 0, 0, 2))}, []int{0}, true},
		{"a write of another label", []api.Task{{Write: true, Label: low, Key: 1, Ask: 1, Done: true}}, nil, false},
		{"and a read beside it", []api.Task{{Write: true, Label: low, Key: 1, Ask: 1, Done: true}, sure(read(here, 2, 0, 0, 2))}, []int{2}, true},
	} {
		j := changed(active(), func(j *api.Job) { j.Tasks = x.tasks })
		a, e := call(among(j), api.Call{Kind: api.Commit, N: 5, Key: 3, Value: 4})
		want := api.Turn{Desk: among(), Messages: decides(true, x.hands...), Replies: reply(api.Commit, 0, 0, api.OK), Sure: 5, Committed: 5}
		if len(x.hands) > 0 {
			want.Desk = among(changed(j, func(j *api.Job) { j.State, j.Age, j.Asked = api.Telling, 0, x.hands }))
		}
		if x.word {
			want.Records = []api.Record{{Kind: api.Committed, Txn: txn(5), Sites: x.hands}}
		}
		answered(t, x.what, a, e, want)
	}
}

// TestRollback: P7.9, P7.4, P7.3: who has something of it lets it go.
func TestRollback(t *testing.T) {
	for _, x := range []struct {
		what  string
		tasks []api.Task
		hands []int
	}{
		{"nothing", nil, nil},
		{"some", active().Tasks, []int{0, 1}},
		{"lower labels", []api.Task{read(low, 0, 1, 1, 1), read(low, 1, 1, 1, 2)}, nil},
		{"reads", []api.Task{read(here, 5, 1, 1, 1), read(low, 1, 1, 1, 2), read(here, 3, 0, 0, 3), read(here, 2, 0, 0, 4)}, []int{0, 2}},
		{"writes", []api.Task{write(4, 1, 1), write(1, 1, 2)}, []int{1}},
	} {
		j := changed(active(), func(j *api.Job) { j.Tasks = x.tasks })
		a, e := call(among(j), api.Call{Kind: api.Rollback, N: 5, Key: 3, Value: 4})
		answered(t, x.what, a, e, api.Turn{Desk: among(), Messages: decides(false, x.hands...), Replies: reply(api.Rollback, 0, 0, api.OK)})
	}
}

// TestHandsAreOfTheLabel: P7.3: of another label's desk the hands are others.
func TestHandsAreOfTheLabel(t *testing.T) {
	tasks := []api.Task{read(low, 0, 0, 0, 1), read(here, 1, 0, 0, 2), read(above, 2, 0, 0, 3), read(low, 4, 0, 0, 4)}
	j := changed(active(), func(j *api.Job) { j.Tasks = tasks })
	for l, hands := range [][]int{low: {0, 1}, here: {1}, above: {2}, aside: {}} {
		a, e := coord.Call(conf(), l, me, among(j), 0, api.Call{Kind: api.Rollback, N: 5})
		answered(t, "Rollback", a, e, api.Turn{Desk: among(), Messages: decides(false, hands...), Replies: reply(api.Rollback, 0, 0, api.OK)})
	}
}

// TestTick: P7.14: what becomes of jobs whose time is over, and of those whose time is not.
func TestTick(t *testing.T) {
	for _, x := range []struct {
		what string
		j    api.Job
		then []api.Job
		want api.Turn
	}{
		{"Telling", telling(), []api.Job{telling()}, api.Turn{Messages: decides(true, 0, 2)}},
		{"Checking", checking(), nil, api.Turn{Messages: decides(false, 0, 1), Replies: reply(api.Commit, 0, 0, api.ErrWait)}},
		{"a Get waits", getting(), nil, api.Turn{Messages: decides(false, 1, 2), Replies: reply(api.Get, 2, 0, api.ErrWait)}},
		{"a Put waits", putting(), nil, api.Turn{Messages: decides(false, 0, 1), Replies: reply(api.Put, 7, 0, api.ErrWait)}},
		{"nothing waits", active(), nil, api.Turn{Messages: decides(false, 0, 1)}},
		{"no tasks", api.Job{N: 5, State: api.Active}, nil, api.Turn{}},
	} {
		for age, over := range map[int]bool{0: false, 1: false, 2: true, 3: true, api.MaxAge: true} {
			x.j.Age = age
			a, e := coord.Tick(conf(), here, me, api.Desk{Next: 6, Jobs: []api.Job{x.j}})
			want := api.Turn{Desk: api.Desk{Next: 6, Jobs: []api.Job{changed(x.j, func(j *api.Job) { j.Age++ })}}}
			if over {
				for i := range x.then {
					x.then[i].Age = 0
				}
				want = x.want
				want.Desk = api.Desk{Next: 6, Jobs: x.then}
			}
			answered(t, x.what, a, e, want)
		}
	}
}

// TestTickPatience: P7.14: the config tells how long.
func TestTickPatience(t *testing.T) {
	for _, x := range []struct {
		patience, age int
		over          bool
	}{
		{1, 0, true}, {1, api.MaxAge, true}, {2, 0, false}, {2, 1, true}, {2, 2, true},
		{api.MaxAge, 0, false}, {api.MaxAge, api.MaxAge - 2, false}, {api.MaxAge, api.MaxAge - 1, true}, {api.MaxAge, api.MaxAge, true},
	} {
		c := conf()
		c.Patience = x.patience
		j := changed(active(), func(j *api.Job) { j.Age = x.age })
		a, e := coord.Tick(c, here, me, one(j))
		if e != api.OK || (len(a.Desk.Jobs) == 0) != x.over || coord.Check(c, a.Desk) != api.OK {
			t.Errorf("patience %d, age %d: %v, %v", x.patience, x.age, a, e)
		}
	}
}

// TestTickAll: P7.14: job by job.
func TestTickAll(t *testing.T) {
	aged := func(j api.Job, n, age int) api.Job {
		j.N, j.Age = n, age
		return j
	}
	d := api.Desk{Next: 30, Jobs: []api.Job{
		aged(getting(), 1, 2), aged(telling(), 3, 7), aged(active(), 4, 1), aged(checking(), 8, 2), aged(putting(), 9, 5), aged(telling(), 12, 0),
	}}
	decide := func(n, to int, yes bool) api.Message {
		return api.Message{Kind: api.Decide, From: me, To: to, Txn: txn(n), Yes: yes}
	}
	a, e := coord.Tick(conf(), here, me, d)
	answered(t, "Tick", a, e, api.Turn{
		Desk: api.Desk{Next: 30, Jobs: []api.Job{aged(telling(), 3, 0), aged(active(), 4, 2), aged(telling(), 12, 1)}},
		Messages: []api.Message{
			decide(1, 1, false), decide(1, 2, false), decide(3, 0, true), decide(3, 2, true),
			decide(8, 0, false), decide(8, 1, false), decide(9, 0, false), decide(9, 1, false),
		},
		Replies: []api.Reply{
			{Site: me, Kind: api.Get, N: 1, Key: 2, Code: api.ErrWait},
			{Site: me, Kind: api.Commit, N: 8, Code: api.ErrWait},
			{Site: me, Kind: api.Put, N: 9, Key: 7, Code: api.ErrWait},
		},
	})
}
