package coord_test

import (
	"fmt"
	"math"
	"slices"
	"testing"

	"reredos/api"
	"reredos/coord"
	"reredos/wire"
)

// roomyList: the same list, with spare room in which something stands.
func roomyList[T any](l []T, x T) []T {
	return append(slices.Clone(l), slices.Repeat([]T{x}, 9)...)[:len(l)]
}

// roomy: a desk whose lists have spare room, with something in it.
func roomy(d api.Desk) api.Desk {
	var jobs []api.Job
	for _, j := range d.Jobs {
		j.Tasks, j.Asked = roomyList(j.Tasks, api.Task{Key: 9}), roomyList(j.Asked, 9)
		jobs = append(jobs, j)
	}
	return api.Desk{Next: d.Next, Jobs: roomyList(jobs, api.Job{N: 9, Tasks: []api.Task{{Key: 9}}, Asked: []int{9}})}
}

// spread: all that a desk's lists hold, with their spare room, as a text.
func spread(d api.Desk) string {
	s := ""
	for _, j := range d.Jobs[:cap(d.Jobs)] {
		s += fmt.Sprintln(j, j.Tasks[:cap(j.Tasks)], j.Asked[:cap(j.Asked)])
	}
	return s
}

// spreadTurn: all that a turn's lists hold, with their spare room.
func spreadTurn(a api.Turn) string {
	s := spread(a.Desk) + fmt.Sprintln(a.Messages[:cap(a.Messages)], a.Replies[:cap(a.Replies)])
	for _, r := range a.Records[:cap(a.Records)] {
		s += fmt.Sprintln(r, r.Sites[:cap(r.Sites)])
	}
	return s
}

// scribbleList: over its spare room, too.
func scribbleList[T any](l []T, x T) {
	l = l[:cap(l)]
	for i := range l {
		l[i] = x
	}
}

func scribble(d api.Desk) {
	for _, j := range d.Jobs[:cap(d.Jobs)] {
		scribbleList(j.Tasks, api.Task{Key: -7})
		scribbleList(j.Asked, -7)
	}
	scribbleList(d.Jobs, api.Job{N: -7})
}

func scribbleTurn(a api.Turn) {
	scribble(a.Desk)
	for _, r := range a.Records[:cap(a.Records)] {
		scribbleList(r.Sites, -7)
	}
	scribbleList(a.Records, api.Record{Kind: -7})
	scribbleList(a.Messages, api.Message{Kind: -7})
	scribbleList(a.Replies, api.Reply{Kind: -7})
}

// numbers: the lists of numbers and of tasks of a turn, those that stand in spare room, too.
func numbers(a api.Turn) (l [][]int, tasks [][]api.Task) {
	for _, j := range a.Desk.Jobs[:cap(a.Desk.Jobs)] {
		l, tasks = append(l, j.Asked), append(tasks, j.Tasks)
	}
	for _, r := range a.Records[:cap(a.Records)] {
		l = append(l, r.Sites)
	}
	return l, tasks
}

// apart: no two lists have memory in common.
func apart[T any](lists [][]T) bool {
	seen := map[*T]int{}
	for i, l := range lists {
		l = l[:cap(l)]
		for at := range l {
			if _, twice := seen[&l[at]]; twice {
				return false
			}
			seen[&l[at]] = i
		}
	}
	return true
}

// turns: of each promise some that change something, and some that change nothing.
func turns() map[string]func(d api.Desk) api.Turn {
	l := map[string]func(d api.Desk) api.Turn{
		"Tick": func(d api.Desk) api.Turn {
			a, _ := coord.Tick(conf(), here, me, d)
			return a
		},
		"Tick (refused)": func(d api.Desk) api.Turn {
			a, _ := coord.Tick(conf(), here, 3, d)
			return a
		},
	}
	for kind := range api.Rollback + 1 {
		l[fmt.Sprint("Call ", kind)] = func(d api.Desk) api.Turn {
			a, _ := call(d, api.Call{Kind: kind, N: 5, Label: here, Key: 1, Value: 2})
			return a
		}
	}
	for i, m := range []api.Message{
		{Kind: api.Got, From: 2, Label: here, Key: 2, Value: 3, Version: 4, Ask: 4},
		{Kind: api.Got, From: 2, Label: here, Key: 2, Ask: 4, Code: api.ErrBusy},
		{Kind: api.Done, From: 1, Key: 7, Ask: 9}, {Kind: api.Done, From: 1, Key: 7, Ask: 9, Code: api.ErrFull},
		asked(here, 1, 2, true), asked(low, 1, 2, true), asked(here, 1, 2, false),
		{Kind: api.Ack}, {Kind: api.Ack, From: 1}, {Kind: api.Doubts}, {Kind: api.Decide},
	} {
		l[fmt.Sprint("Hear ", i)] = func(d api.Desk) api.Turn {
			a, _ := hear(d, m)
			return a
		}
	}
	return l
}

// desks on which the job 5 is in each of its states.
func desks() []api.Desk {
	old := changed(telling(), func(j *api.Job) { j.Age = 2 })
	late := changed(checking(), func(j *api.Job) { j.Age, j.Tasks = 2, j.Tasks[:4] })
	writer := changed(active(), func(j *api.Job) { j.Tasks = j.Tasks[1:2] })
	lone := changed(telling(), func(j *api.Job) { j.Asked = j.Asked[:1] })
	return []api.Desk{among(), among(active()), among(writer), among(getting()), among(putting()), among(checking()), among(late), among(telling()), among(old), among(lone), {Next: 1}}
}

// TestSharesNothing: what is handed in stays, spare room too; no answer shares memory with it, or with another answer; no two lists of one do.
func TestSharesNothing(t *testing.T) {
	for name, turn := range turns() {
		for _, given := range desks() {
			d := roomy(given)
			was := spread(d)
			first, second := turn(d), turn(d)
			want := spreadTurn(second)
			if spread(d) != was {
				t.Errorf("%s: what was handed in was changed", name)
			}
			l, tasks := numbers(first)
			if !apart(l) || !apart(tasks) {
				t.Errorf("%s: two lists of %v share memory", name, first)
			}
			scribbleTurn(first)
			if spread(d) != was {
				t.Errorf("%s: the answer shares memory with what was handed in", name)
			}
			if spreadTurn(second) != want {
				t.Errorf("%s: two answers share memory", name)
			}
			scribble(d)
			if spreadTurn(second) != want {
				t.Errorf("%s: what was handed in was kept", name)
			}
		}
	}
}

// die: numbers that look drawn, the same each time.
type die uint64

func (d *die) n(most int) int {
	*d = *d*6364136223846793005 + 1442695040888963407
	return int(uint64(*d>>33) % uint64(most))
}

// answer that a site might give to a message, or one that it would not.
func (d *die) answer(m api.Message) api.Message {
	x := api.Message{From: m.To, To: m.From, Txn: m.Txn, Key: m.Key, Ask: m.Ask}
	switch m.Kind {
	case api.Read:
		x.Kind, x.Label = api.Got, m.Label
		if x.Code = []api.Errno{api.OK, api.OK, api.ErrBusy}[d.n(3)]; x.Code == api.OK {
			x.Value, x.Version = d.n(9), d.n(3)
		}
	case api.Write:
		x.Kind, x.Code = api.Done, []api.Errno{api.OK, api.OK, api.OK, api.ErrFull}[d.n(4)]
	case api.Check:
		x.Kind, x.Label, x.Version, x.Yes = api.Sure, m.Label, m.Version, d.n(4) > 0
	case api.Decide:
		x.Kind = []int{api.Ack, api.Ack, api.Doubts}[d.n(3)]
	}
	return x
}

// step: a call that looks drawn, twice.
func (d *die) step(l int, desk api.Desk, fly []api.Message) (a, b api.Turn, e, f api.Errno) {
	switch d.n(16) {
	case 0:
		a, e = coord.Tick(conf(), l, me, desk)
		b, f = coord.Tick(conf(), l, me, desk)
	case 1, 2, 3, 4, 5, 6, 7:
		if len(fly) > 0 {
			m := d.answer(fly[d.n(len(fly))])
			a, e = coord.Hear(conf(), l, me, desk, m)
			b, f = coord.Hear(conf(), l, me, desk, m)
			return a, b, e, f
		}
		fallthrough
	default:
		x := api.Call{Kind: []int{api.Begin, api.Get, api.Get, api.Put, api.Commit, api.Rollback}[d.n(6)], N: desk.Next - 1 - d.n(3), Label: d.n(3), Key: d.n(api.Keys), Value: d.n(50)}
		a, e = coord.Call(conf(), l, me, desk, api.MaxTape, x)
		b, f = coord.Call(conf(), l, me, desk, api.MaxTape, x)
	}
	return a, b, e, f
}

// mayBe: whether all that is answered is what the other layers take.
func mayBe(a api.Turn) bool {
	for _, m := range a.Messages {
		if wire.CheckMessage(conf(), m) != api.OK || m.From != me || m.Txn.Site != me {
			return false
		}
	}
	for _, r := range a.Records {
		if wire.CheckRecord(conf(), r) != api.OK || r.Txn.Site != me {
			return false
		}
	}
	for _, r := range a.Replies {
		if r.Site != me {
			return false
		}
	}
	return coord.Check(conf(), a.Desk) == api.OK
}

// TestDrawn: what comes of calls may be, and is the same each time; what is committed once is committed never again.
func TestDrawn(t *testing.T) {
	d := die(7)
	sent, codes := map[int]int{}, map[api.Errno]int{}
	for range 120 {
		l, desk, fly := d.n(4), api.Desk{Next: 1}, []api.Message(nil)
		committed := map[int]int{}
		for range 300 {
			a, b, e, f := d.step(l, desk, fly)
			if e != api.OK || f != api.OK || !same(a, b) || !mayBe(a) {
				t.Fatalf("at %d, of %v: %v, %v; %v, %v", l, desk, a, e, b, f)
			}
			if committed[a.Committed]++; a.Committed > 0 && committed[a.Committed] > 1 {
				t.Fatalf("%d was committed twice", a.Committed)
			}
			for _, m := range a.Messages {
				sent[m.Kind]++
			}
			for _, r := range a.Replies {
				codes[r.Code]++
			}
			desk, fly = a.Desk, append(fly, a.Messages...)
			fly = fly[max(len(fly)-5, 0):]
		}
	}
	for _, kind := range []int{api.Read, api.Write, api.Check, api.Decide} {
		if sent[kind] < 50 {
			t.Errorf("too little was tried: %v", sent)
		}
	}
	for _, code := range []api.Errno{api.OK, api.ErrNone, api.ErrFull, api.ErrLabel, api.ErrBusy, api.ErrOver, api.ErrWait} {
		if codes[code] < 20 {
			t.Errorf("too little was tried: %v of %v", code, codes)
		}
	}
}

// wild number: small, at a limit, or out of all bounds.
func (d *die) wild() int {
	l := []int{math.MinInt, math.MaxInt, -1, api.MaxNumber, api.MaxNumber + 1, api.MaxValue + 1, 0, 1, 2, 3, 5, 8}
	return l[d.n(len(l))]
}

// TestWild: whatever is handed in, calls end; what is refused is answered with nothing.
func TestWild(t *testing.T) {
	d := die(77)
	few := func() int { return d.n(4) }
	for range 20000 {
		number := few
		if d.n(3) == 0 {
			number = d.wild
		}
		task := api.Task{Write: d.n(2) == 0, Label: number(), Key: number(), Value: number(), Version: number(), Ask: number(), Done: d.n(2) == 0, Sure: d.n(2) == 0}
		job := api.Job{N: number(), State: number(), Asks: number(), Age: number()}
		job.Tasks = slices.Repeat([]api.Task{task}, d.n(3))
		if d.n(2) == 0 {
			job.Asked = []int{number()}
		}
		desk := api.Desk{Next: number() + 1, Jobs: slices.Repeat([]api.Job{job}, d.n(3))}
		c := conf()
		if d.n(9) == 0 {
			c.Sites, c.Patience = d.wild(), d.wild()
		}
		l, site := number(), number()
		m := api.Message{Kind: d.n(11), From: number(), To: site, Txn: api.Txn{Site: site, N: number()}, Label: number(), Key: number(), Ask: number(), Code: api.Errno(number())}
		for _, f := range []func() (api.Turn, api.Errno){
			func() (api.Turn, api.Errno) { return coord.Tick(c, l, site, desk) },
			func() (api.Turn, api.Errno) { return coord.Hear(c, l, site, desk, m) },
			func() (api.Turn, api.Errno) {
				return coord.Call(c, l, site, desk, d.wild(), api.Call{Kind: d.n(7), N: number(), Label: number(), Key: number(), Value: number()})
			},
		} {
			a, e := f()
			if e != api.OK && !same(a, api.Turn{}) || e == api.OK && coord.Check(c, a.Desk) != api.OK {
				t.Fatalf("%v, %d, %d, %v: %v, %v", c, l, site, desk, a, e)
			}
		}
	}
}
