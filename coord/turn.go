package coord

import (
	"slices"

	"reredos/api"
	"reredos/fresh"
	"reredos/label"
)

// clerk of a label, at a site, with the turn as far as it has come.
type clerk struct {
	c    api.Config
	l    int
	me   int
	turn api.Turn
}

// sit at a desk: at a copy of it, for the turn will tell it.
func sit(c api.Config, l, me int, d api.Desk) *clerk {
	return &clerk{c: c, l: l, me: me, turn: api.Turn{Desk: fresh.Desk(d)}}
}

// numbered: a job with that N?
func numbered(n int) func(api.Job) bool {
	return func(j api.Job) bool { return j.N == n }
}

// job with that N; nil, if there is none. It is good until a job is dropped.
func (k *clerk) job(n int) *api.Job {
	i := slices.IndexFunc(k.turn.Desk.Jobs, numbered(n))
	if i < 0 {
		return nil
	}
	return &k.turn.Desk.Jobs[i]
}

func (k *clerk) drop(n int) {
	k.turn.Desk.Jobs = slices.DeleteFunc(k.turn.Desk.Jobs, numbered(n))
}

// txn: the name under which other sites know the job with that N.
func (k *clerk) txn(n int) api.Txn {
	return api.Txn{Site: k.me, N: n}
}

// send a message about the job with that N.
func (k *clerk) send(n, to int, m api.Message) {
	m.From, m.To, m.Txn = k.me, to, k.txn(n)
	k.turn.Messages = append(k.turn.Messages, m)
}

func (k *clerk) write(r api.Record) {
	k.turn.Records = append(k.turn.Records, r)
}

func (k *clerk) reply(r api.Reply) {
	r.Site = k.me
	k.turn.Replies = append(k.turn.Replies, r)
}

// home of a key of which it is known that it is one.
func (k *clerk) home(key int) int {
	site, _ := label.Home(k.c, key)
	return site
}

// hands: the sites where tasks have left something, by their numbers; what was read of lower labels has left nothing.
func (k *clerk) hands(tasks []api.Task) []int {
	var l []int
	for site := range k.c.Sites {
		if slices.ContainsFunc(tasks, func(t api.Task) bool { return t.Label == k.l && k.home(t.Key) == site }) {
			l = append(l, site)
		}
	}
	return l
}

// end a job: who has something of it lets it go.
func (k *clerk) end(j api.Job) {
	for _, site := range k.hands(j.Tasks) {
		k.send(j.N, site, api.Message{Kind: api.Decide})
	}
	k.drop(j.N)
}

// commit a job: it is kept until all know.
func (k *clerk) commit(j *api.Job) {
	k.turn.Committed = j.N
	k.reply(api.Reply{Kind: api.Commit, N: j.N})
	hands := k.hands(j.Tasks)
	if len(hands) == 0 {
		k.drop(j.N)
		return
	}
	if slices.ContainsFunc(j.Tasks, isWrite) {
		// Its own list of hands: the job will hold the other one.
		k.write(api.Record{Kind: api.Committed, Txn: k.txn(j.N), Sites: k.hands(j.Tasks)})
	}
	j.State, j.Asked = api.Telling, hands
	k.tell(j)
}

// tell those who are to know that a job is committed, and wait for them anew.
func (k *clerk) tell(j *api.Job) {
	j.Age = 0
	for _, site := range j.Asked {
		k.send(j.N, site, api.Message{Kind: api.Decide, Yes: true})
	}
}

func isWrite(t api.Task) bool {
	return t.Write
}

// isUnsure: a read that is to be asked after?
func isUnsure(t api.Task) bool {
	return !t.Write && !t.Sure
}

func isSure(tasks []api.Task) bool {
	return !slices.ContainsFunc(tasks, isUnsure)
}

// waiting: the task of a job that is not done; nil, if there is none. It can be the last one alone.
func waiting(j *api.Job) *api.Task {
	last := len(j.Tasks) - 1
	if last < 0 || j.Tasks[last].Done {
		return nil
	}
	return &j.Tasks[last]
}

// callOf: the kind of call that a task comes of.
func callOf(t api.Task) int {
	if t.Write {
		return api.Put
	}
	return api.Get
}
