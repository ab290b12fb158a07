package cluster

import (
	"slices"

	"reredos/api"
)

// fate of a transaction that was sure of what it had read, which is told if it is committed in the end.
type fate struct {
	api.Fate
	committed bool
}

// foretell what a turn says of fates. The desk must still be as it was ahead of the turn, for the tasks are told as they were then.
func (w *world) foretell(l, site int, u api.Turn) {
	if u.Sure != 0 {
		f := fate{Fate: api.Fate{Label: l, Txn: api.Txn{Site: site, N: u.Sure}}}
		f.Tasks = tasksOf(w.post(l, site).desk, u.Sure)
		w.fates = append(w.fates, f)
	}
	if u.Committed != 0 {
		w.seal(l, api.Txn{Site: site, N: u.Committed})
	}
}

// seal the fate of a transaction that is committed.
func (w *world) seal(l int, t api.Txn) {
	if i := slices.IndexFunc(w.fates, of(l, t)); i >= 0 {
		w.fates[i].committed = true
	}
}

// of: the fate of a label's transaction?
func of(l int, t api.Txn) func(fate) bool {
	return func(f fate) bool { return f.Label == l && f.Txn == t }
}

// tasksOf the job with that N, in memory of their own.
func tasksOf(d api.Desk, n int) []api.Task {
	i := slices.IndexFunc(d.Jobs, func(j api.Job) bool { return j.N == n })
	if i < 0 {
		return nil
	}
	return append([]api.Task(nil), d.Jobs[i].Tasks...)
}

// told: the fates of those that were committed.
func told(fates []fate) []api.Fate {
	var l []api.Fate
	for _, f := range fates {
		if f.committed {
			l = append(l, f.Fate)
		}
	}
	return l
}
