// Package fresh: what was handed in, in memory of its own, so that an answer may hold it.
package fresh

import "reredos/api"

// Store: the same one; not even its spare room is shared.
func Store(s api.Store) api.Store {
	return api.Store{
		Items:  append([]api.Item(nil), s.Items...),
		Locks:  append([]api.Lock(nil), s.Locks...),
		Doubts: append([]api.Doubt(nil), s.Doubts...),
		Over:   append([]api.Txn(nil), s.Over...),
	}
}

// Notes: the same ones.
func Notes(l []api.Note) []api.Note {
	return append([]api.Note(nil), l...)
}

// Desk: the same one; no list of a job is shared, either.
func Desk(d api.Desk) api.Desk {
	var jobs []api.Job
	for _, j := range d.Jobs {
		j.Tasks = append([]api.Task(nil), j.Tasks...)
		j.Asked = append([]int(nil), j.Asked...)
		jobs = append(jobs, j)
	}
	return api.Desk{Next: d.Next, Jobs: jobs}
}
