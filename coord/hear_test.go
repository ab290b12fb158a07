package coord_test

import (
	"math"
	"testing"

	"reredos/api"
	"reredos/coord"
)

// hear a message to the site, about its job 5.
func hear(d api.Desk, m api.Message) (api.Turn, api.Errno) {
	m.To, m.Txn = me, txn(5)
	return coord.Hear(conf(), here, me, d, m)
}

// TestHearRefusesMessages: P7.10: what CheckMessage refuses, ahead of what is refused behind it.
func TestHearRefusesMessages(t *testing.T) {
	for _, x := range []struct {
		m    api.Message
		want api.Errno
	}{
		{api.Message{}, api.ErrKind},
		{api.Message{Kind: -1, To: me, Txn: txn(5)}, api.ErrKind},
		{api.Message{Kind: api.Doubts + 1, To: 1, Txn: txn(5)}, api.ErrKind},
		{api.Message{Kind: math.MaxInt, To: me, Txn: txn(5)}, api.ErrKind},
		{api.Message{Kind: api.Ack, From: 3, To: me, Txn: txn(5)}, api.ErrRange},
		{api.Message{Kind: api.Ack, From: -1, To: me, Txn: txn(5)}, api.ErrRange},
		{api.Message{Kind: api.Ack, To: me, Txn: txn(0)}, api.ErrRange},
		{api.Message{Kind: api.Doubts, To: me, Txn: txn(api.MaxNumber + 1)}, api.ErrRange},
		{api.Message{Kind: api.Got, To: me, Txn: txn(5), Label: 4}, api.ErrRange},
		{api.Message{Kind: api.Got, To: me, Txn: txn(5), Key: api.Keys}, api.ErrRange},
		{api.Message{Kind: api.Got, To: me, Txn: txn(5), Value: -1}, api.ErrRange},
		{api.Message{Kind: api.Got, To: me, Txn: txn(5), Code: api.ErrOver}, api.ErrRange},
		{api.Message{Kind: api.Got, To: me, Txn: txn(5), Value: 1, Code: api.ErrBusy}, api.ErrForm},
		{api.Message{Kind: api.Done, To: me, Txn: txn(5), Ask: -1}, api.ErrRange},
		{api.Message{Kind: api.Done, To: me, Txn: txn(5), Label: here}, api.ErrForm},
		{api.Message{Kind: api.Sure, To: 1, Txn: txn(5), Ask: 1}, api.ErrForm},
		{api.Message{Kind: api.Ack, To: 1, Txn: txn(5), Yes: true}, api.ErrForm},
		{api.Message{Kind: api.Doubts, To: me, Txn: api.Txn{Site: 1, N: 5}, Key: 1}, api.ErrForm},
		{api.Message{Kind: api.Read, To: 1, Txn: txn(5), Value: 1}, api.ErrForm},
	} {
		a, e := coord.Hear(conf(), here, me, among(active()), x.m)
		refused(t, "Hear", a, e, x.want)
	}
}

// TestHearSitesAndKinds: P7.10: what is to another site, or about a transaction of another one, ahead of kinds that a coordinator does not hear.
func TestHearSitesAndKinds(t *testing.T) {
	for kind := api.Read; kind <= api.Doubts; kind++ {
		for to := range 3 {
			for site := range 3 {
				a, e := coord.Hear(conf(), here, me, among(active()), api.Message{Kind: kind, From: 1, To: to, Txn: api.Txn{Site: site, N: 5}})
				switch {
				case to != me || site != me:
					refused(t, "another site", a, e, api.ErrRange)
				case kind <= api.Decide:
					refused(t, "kind", a, e, api.ErrKind)
				case e != api.OK:
					t.Errorf("kind %d: %v", kind, e)
				}
			}
		}
	}
}

// TestHearNoJob: P7.10, P7.13: of a transaction that has no job nothing is done, but that who is in doubt is told.
func TestHearNoJob(t *testing.T) {
	for _, d := range []api.Desk{{Next: 1}, {Next: 6}, among()} {
		for _, m := range []api.Message{
			{Kind: api.Got, From: 1, Label: here, Key: 1, Value: 1, Version: 1, Ask: 1}, {Kind: api.Got, Code: api.ErrBusy},
			{Kind: api.Done, From: 1, Key: 1, Ask: 1}, {Kind: api.Done, Code: api.ErrFull},
			{Kind: api.Sure, From: 1, Label: here, Key: 1, Version: 2}, {Kind: api.Sure, Yes: true}, {Kind: api.Ack}, {Kind: api.Ack, From: 2},
		} {
			a, e := hear(d, m)
			answered(t, "no job", a, e, api.Turn{Desk: d})
		}
		for from := range 3 {
			a, e := hear(d, api.Message{Kind: api.Doubts, From: from})
			answered(t, "Doubts", a, e, api.Turn{Desk: d, Messages: decides(false, from)})
		}
	}
}

// TestGot: P7.10: what was read is told, and kept.
func TestGot(t *testing.T) {
	for _, x := range []struct{ l, key, value, version int }{
		{here, 2, 0, 0}, {here, 5, 77, 3}, {low, 4, api.MaxValue, api.MaxVersion}, {low, 2, 1, 0},
	} {
		j := changed(getting(), func(j *api.Job) { j.Tasks[1].Label, j.Tasks[1].Key = x.l, x.key })
		a, e := hear(among(j), api.Message{Kind: api.Got, From: x.key % 3, Label: x.l, Key: x.key, Value: x.value, Version: x.version, Ask: 4})
		then := changed(getting(), func(j *api.Job) { j.Tasks[1], j.Age = read(x.l, x.key, x.value, x.version, 4), 0 })
		answered(t, "Got", a, e, api.Turn{Desk: among(then), Replies: reply(api.Get, x.key, x.value, api.OK)})
	}
}

// TestGotRefused: P7.10: the task is there no more; the job goes on, and its Asks stay.
func TestGotRefused(t *testing.T) {
	for _, code := range []api.Errno{api.ErrBusy, api.ErrFull} {
		a, e := hear(among(getting()), api.Message{Kind: api.Got, From: 2, Label: here, Key: 2, Ask: 4, Code: code})
		then := changed(getting(), func(j *api.Job) { j.Tasks, j.Age = j.Tasks[:1], 0 })
		answered(t, "Got", a, e, api.Turn{Desk: among(then), Replies: reply(api.Get, 2, 0, code)})
		b, e := call(a.Desk, api.Call{Kind: api.Put, N: 5, Key: 1})
		if e != api.OK || len(b.Messages) != 1 || b.Messages[0].Ask != 5 {
			t.Errorf("and then: %v, %v", b, e)
		}
	}
}

// TestDone: P7.10: a write that is done keeps its value; of one that is refused the job is ended, there, too.
func TestDone(t *testing.T) {
	a, e := hear(among(putting()), api.Message{Kind: api.Done, From: 1, Key: 7, Ask: 9})
	then := changed(putting(), func(j *api.Job) { j.Tasks[2].Done, j.Age = true, 0 })
	answered(t, "Done", a, e, api.Turn{Desk: among(then), Replies: reply(api.Put, 7, 0, api.OK)})
	for _, code := range []api.Errno{api.ErrBusy, api.ErrFull} {
		a, e := hear(among(putting()), api.Message{Kind: api.Done, From: 1, Key: 7, Ask: 9, Code: code})
		answered(t, "Done", a, e, api.Turn{Desk: among(), Messages: decides(false, 0, 1), Replies: reply(api.Put, 7, 0, code)})
	}
}

// TestDoneKeepsTheRest: P7.10: a Done tells neither value nor version, whatever the task has.
func TestDoneKeepsTheRest(t *testing.T) {
	j := changed(putting(), func(j *api.Job) { j.Tasks[2].Version, j.Tasks[2].Label = 8, low })
	a, e := hear(among(j), api.Message{Kind: api.Done, From: 1, Key: 7, Ask: 9})
	then := changed(j, func(j *api.Job) {
		j.Tasks = append([]api.Task(nil), j.Tasks...)
		j.Tasks[2].Done, j.Age = true, 0
	})
	answered(t, "Done", a, e, api.Turn{Desk: among(then), Replies: reply(api.Put, 7, 0, api.OK)})
}

// TestAnswersNobodyWaitsFor: P7.10: those that came late, twice, or from elsewhere do nothing, whatever they say.
func TestAnswersNobodyWaitsFor(t *testing.T) {
	for _, x := range []struct {
		what string
		j    api.Job
		m    api.Message
	}{
		{"nothing waits", active(), api.Message{Kind: api.Got, From: 2, Label: low, Key: 5, Ask: 6}},
		{"nothing waits", changed(active(), func(j *api.Job) { j.Tasks = j.Tasks[:2] }), api.Message{Kind: api.Done, From: 0, Key: 0, Ask: 3}},
		{"no tasks", api.Job{N: 5, State: api.Active}, api.Message{Kind: api.Got, From: 0, Ask: 1}},
		{"no tasks", api.Job{N: 5, State: api.Active}, api.Message{Kind: api.Done}},
		{"Checking", checking(), api.Message{Kind: api.Got, From: 1, Label: low, Key: 1, Ask: 7}},
		{"Telling", telling(), api.Message{Kind: api.Got, From: 1, Label: here, Key: 1, Ask: 2}},
		{"another Ask", getting(), api.Message{Kind: api.Got, From: 2, Label: here, Key: 2, Ask: 3}},
		{"no Ask", getting(), api.Message{Kind: api.Got, From: 2, Label: here, Key: 2}},
		{"another key of that site", getting(), api.Message{Kind: api.Got, From: 2, Label: here, Key: 5, Ask: 4}},
		{"another label", getting(), api.Message{Kind: api.Got, From: 2, Label: low, Key: 2, Ask: 4}},
		{"another site", getting(), api.Message{Kind: api.Got, From: 0, Label: here, Key: 2, Ask: 4}},
		{"a Done of a read", getting(), api.Message{Kind: api.Done, From: 2, Key: 2, Ask: 4}},
		{"the task ahead", getting(), api.Message{Kind: api.Done, From: 1, Key: 4, Ask: 1}},
		{"another Ask", putting(), api.Message{Kind: api.Done, From: 1, Key: 7, Ask: 8}},
		{"another key of that site", putting(), api.Message{Kind: api.Done, From: 1, Key: 4, Ask: 9}},
		{"another site", putting(), api.Message{Kind: api.Done, From: 2, Key: 7, Ask: 9}},
		{"a Got of a Write", putting(), api.Message{Kind: api.Got, From: 1, Label: here, Key: 7, Ask: 9}},
		{"the task ahead", putting(), api.Message{Kind: api.Got, From: 0, Label: here, Key: 6, Ask: 3}},
	} {
		for _, code := range []api.Errno{api.OK, api.ErrBusy, api.ErrFull} {
			x.m.Code = code
			a, e := hear(among(x.j), x.m)
			answered(t, x.what, a, e, api.Turn{Desk: among(x.j)})
		}
	}
}

// asked: an answer to a Check.
func asked(l, key, version int, yes bool) api.Message {
	return api.Message{Kind: api.Sure, From: key % 3, Label: l, Key: key, Version: version, Yes: yes}
}

// TestSure: P7.11: all reads of that label, key and version are sure; with the last of them the job is committed.
func TestSure(t *testing.T) {
	a, e := hear(among(checking()), asked(here, 1, 2, true))
	some := changed(checking(), func(j *api.Job) { j.Tasks[0].Sure, j.Tasks[3].Sure = true, true })
	answered(t, "not all are", a, e, api.Turn{Desk: among(some)})
	a, e = hear(among(checking()), asked(low, 5, 4, true))
	answered(t, "it was already", a, e, api.Turn{Desk: among(checking())})
	a, e = hear(among(some), asked(low, 1, 2, true))
	all := changed(some, func(j *api.Job) {
		j.Tasks = append(append([]api.Task(nil), j.Tasks[:4]...), sure(j.Tasks[4]))
		j.State, j.Age, j.Asked = api.Telling, 0, []int{0, 1}
	})
	committed := api.Turn{
		Desk: among(all), Messages: decides(true, 0, 1), Replies: reply(api.Commit, 0, 0, api.OK), Committed: 5,
		Records: []api.Record{{Kind: api.Committed, Txn: txn(5), Sites: []int{0, 1}}},
	}
	answered(t, "all are", a, e, committed)
	again := changed(all, func(j *api.Job) { j.State, j.Age, j.Asked = api.Checking, 1, nil })
	a, e = hear(among(again), asked(low, 5, 4, true))
	answered(t, "all were", a, e, committed)
}

// TestSureOfReaders: P7.11, P7.5: a job that has read alone is committed without a word on the tape; one that has read lower labels alone is forgotten.
func TestSureOfReaders(t *testing.T) {
	reader := api.Job{N: 5, State: api.Checking, Asks: 3, Age: 2, Tasks: []api.Task{sure(read(low, 0, 1, 1, 1)), read(here, 2, 3, 4, 2)}}
	a, e := hear(among(reader), asked(here, 2, 4, true))
	then := changed(reader, func(j *api.Job) {
		j.State, j.Age, j.Asked, j.Tasks = api.Telling, 0, []int{2}, []api.Task{j.Tasks[0], sure(j.Tasks[1])}
	})
	answered(t, "its own label", a, e, api.Turn{Desk: among(then), Messages: decides(true, 2), Replies: reply(api.Commit, 0, 0, api.OK), Committed: 5})
	reader.Tasks = []api.Task{read(low, 0, 1, 1, 1)}
	a, e = hear(among(reader), asked(low, 0, 1, true))
	answered(t, "a lower one", a, e, api.Turn{Desk: among(), Replies: reply(api.Commit, 0, 0, api.OK), Committed: 5})
}

// TestNotSure: P7.11: what was read is not as it was: the job is ended, even if it was sure of it.
func TestNotSure(t *testing.T) {
	for _, m := range []api.Message{asked(here, 1, 2, false), asked(low, 1, 2, false), asked(low, 5, 4, false)} {
		a, e := hear(among(checking()), m)
		answered(t, "not sure", a, e, api.Turn{Desk: among(), Messages: decides(false, 0, 1), Replies: reply(api.Commit, 0, 0, api.ErrBusy)})
	}
}

// TestSureOfNothing: P7.11: what was not read so, or is not asked after, does nothing.
func TestSureOfNothing(t *testing.T) {
	reads := func(state int) api.Job {
		j := api.Job{N: 5, State: state, Asks: 3, Tasks: []api.Task{read(here, 1, 10, 2, 1)}}
		if state == api.Telling {
			j.Asked = []int{1}
		}
		return j
	}
	elsewhere := asked(here, 1, 2, true)
	elsewhere.From = 2
	for _, x := range []struct {
		what string
		j    api.Job
		m    api.Message
	}{
		{"Active", reads(api.Active), asked(here, 1, 2, true)},
		{"Telling", reads(api.Telling), asked(here, 1, 2, true)},
		{"another label", reads(api.Checking), asked(low, 1, 2, true)},
		{"another key of that site", reads(api.Checking), asked(here, 4, 2, true)},
		{"another version", reads(api.Checking), asked(here, 1, 3, true)},
		{"another site", reads(api.Checking), elsewhere},
		{"a Write", api.Job{N: 5, State: api.Checking, Asks: 1, Tasks: []api.Task{write(0, 1, 1)}}, asked(here, 0, 0, true)},
		{"no tasks", api.Job{N: 5, State: api.Checking}, asked(here, 0, 0, true)},
	} {
		for _, yes := range []bool{true, false} {
			x.m.Yes = yes
			a, e := hear(among(x.j), x.m)
			answered(t, x.what, a, e, api.Turn{Desk: among(x.j)})
		}
	}
}

// TestAck: P7.12: one site fewer; with the last one the job is there no more.
func TestAck(t *testing.T) {
	ack := func(from int) api.Message { return api.Message{Kind: api.Ack, From: from} }
	left := func(l ...int) api.Job { return changed(telling(), func(j *api.Job) { j.Asked = l }) }
	for _, x := range []struct {
		what        string
		asked, then []int
		from        int
	}{
		{"the first one", []int{0, 1, 2}, []int{1, 2}, 0},
		{"the middle one", []int{0, 1, 2}, []int{0, 2}, 1},
		{"the last one", []int{0, 2}, []int{0}, 2},
		{"one that is not asked", []int{0, 2}, []int{0, 2}, 1},
		{"and alone", []int{0}, []int{0}, 2},
	} {
		a, e := hear(among(left(x.asked...)), ack(x.from))
		answered(t, x.what, a, e, api.Turn{Desk: among(left(x.then...))})
	}
	for site := range 3 {
		for _, tasks := range [][]api.Task{nil, {read(here, site, 0, 0, 1)}, telling().Tasks} {
			j := changed(left(site), func(j *api.Job) { j.Tasks = tasks })
			a, e := hear(among(j), ack(site))
			answered(t, "all know", a, e, api.Turn{Desk: among(), Records: []api.Record{{Kind: api.Ended, Txn: txn(5)}}})
		}
		for _, j := range []api.Job{active(), getting(), putting(), checking()} {
			a, e := hear(among(j), ack(site))
			answered(t, "not Telling", a, e, api.Turn{Desk: among(j)})
		}
	}
}

// TestDoubts: P7.13: who is to know is told that it is committed; of what is open nothing is said.
func TestDoubts(t *testing.T) {
	for from, yes := range []bool{true, false, true} {
		m := api.Message{Kind: api.Doubts, From: from}
		want := api.Turn{Desk: among(telling())}
		if yes {
			want.Messages = decides(true, from)
		}
		a, e := hear(among(telling()), m)
		answered(t, "Telling", a, e, want)
		for _, j := range []api.Job{active(), getting(), putting(), checking(), {N: 5, State: api.Active}} {
			a, e := hear(among(j), m)
			answered(t, "open", a, e, api.Turn{Desk: among(j)})
		}
	}
}
