package coord

import (
	"slices"

	"reredos/api"
	"reredos/bounds"
	"reredos/wire"
)

// Hear a message to a coordinator.
func Hear(c api.Config, l, me int, d api.Desk, m api.Message) (api.Turn, api.Errno) {
	if e := refuseHear(c, l, me, d, m); e != api.OK {
		return api.Turn{}, e
	}
	k := sit(c, l, me, d)
	j := k.job(m.Txn.N)
	switch {
	case m.Kind == api.Doubts:
		k.doubts(j, m)
	case j == nil:
		// It came late: the transaction is over.
	case m.Kind == api.Got || m.Kind == api.Done:
		k.answered(j, m)
	case m.Kind == api.Sure:
		k.sure(j, m)
	case m.Kind == api.Ack:
		k.ack(j, m)
	}
	return k.turn, api.OK
}

func refuseHear(c api.Config, l, me int, d api.Desk, m api.Message) api.Errno {
	if e := refuse(c, l, me, d); e != api.OK {
		return e
	}
	if e := wire.CheckMessage(c, m); e != api.OK {
		return e
	}
	if m.To != me || m.Txn.Site != me {
		return api.ErrRange
	}
	if !bounds.Within(m.Kind, api.Got, api.Doubts) {
		return api.ErrKind
	}
	return api.OK
}

// answered: the task that waits is done, or refused; a job of which a write is refused cannot go on.
func (k *clerk) answered(j *api.Job, m api.Message) {
	t := waiting(j)
	if t == nil || !k.answers(m, *t) {
		return
	}
	k.reply(api.Reply{Kind: callOf(*t), N: j.N, Key: m.Key, Value: m.Value, Code: m.Code})
	j.Age = 0
	switch {
	case m.Code == api.OK:
		t.Done = true
		if !t.Write {
			t.Value, t.Version = m.Value, m.Version
		}
	case t.Write:
		k.end(*j)
	default:
		j.Tasks = j.Tasks[:len(j.Tasks)-1]
	}
}

// answers: whether a message is the answer that a task waits for, not one that came late or twice.
func (k *clerk) answers(m api.Message, t api.Task) bool {
	if t.Write != (m.Kind == api.Done) || t.Ask != m.Ask || t.Key != m.Key || m.From != k.home(t.Key) {
		return false
	}
	return t.Write || t.Label == m.Label
}

// isRead: a task that has read that label's key, in that version?
func isRead(m api.Message) func(api.Task) bool {
	return func(t api.Task) bool {
		return !t.Write && t.Label == m.Label && t.Key == m.Key && t.Version == m.Version
	}
}

// sure: what a job has read is as it was, or it is not, and the job was in vain.
func (k *clerk) sure(j *api.Job, m api.Message) {
	is := isRead(m)
	if j.State != api.Checking || m.From != k.home(m.Key) || !slices.ContainsFunc(j.Tasks, is) {
		return
	}
	if !m.Yes {
		k.reply(api.Reply{Kind: api.Commit, N: j.N, Code: api.ErrBusy})
		k.end(*j)
		return
	}
	for i, t := range j.Tasks {
		if is(t) {
			j.Tasks[i].Sure = true
		}
	}
	if isSure(j.Tasks) {
		k.commit(j)
	}
}

// ack: a site knows that a job is committed.
func (k *clerk) ack(j *api.Job, m api.Message) {
	if j.State != api.Telling {
		return
	}
	j.Asked = slices.DeleteFunc(j.Asked, func(site int) bool { return site == m.From })
	if len(j.Asked) == 0 {
		k.write(api.Record{Kind: api.Ended, Txn: m.Txn})
		k.drop(j.N)
	}
}

// doubts: of what is not remembered nothing was committed; of what is open nothing can be said yet.
func (k *clerk) doubts(j *api.Job, m api.Message) {
	if j == nil {
		k.send(m.Txn.N, m.From, api.Message{Kind: api.Decide})
		return
	}
	if j.State == api.Telling && slices.Contains(j.Asked, m.From) {
		k.send(j.N, m.From, api.Message{Kind: api.Decide, Yes: true})
	}
}
