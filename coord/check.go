package coord

import (
	"reredos/api"
	"reredos/bounds"
	"reredos/label"
)

// Check a desk.
func Check(c api.Config, d api.Desk) api.Errno {
	if e := label.Check(c); e != api.OK {
		return e
	}
	if !bounds.Within(d.Next, 1, api.MaxNumber+1) || !jobsMayBe(c, d) {
		return api.ErrState
	}
	return api.OK
}

func jobsMayBe(c api.Config, d api.Desk) bool {
	if len(d.Jobs) > api.MaxTxns {
		return false
	}
	low := 1
	for _, j := range d.Jobs {
		if !bounds.Within(j.N, low, d.Next-1) || !jobMayBe(c, j) {
			return false
		}
		low = j.N + 1
	}
	return true
}

// jobMayBe: by itself; whether its N may be hangs on the desk.
func jobMayBe(c api.Config, j api.Job) bool {
	if !bounds.Within(j.Age, 0, api.MaxAge) || !bounds.Within(j.State, api.Active, api.Telling) || !bounds.Within(j.Asks, 0, api.MaxNumber) {
		return false
	}
	if !bounds.Rising(c, j.Asked) || (j.State == api.Telling) != (len(j.Asked) > 0) {
		return false
	}
	return tasksMayBe(c, j)
}

func tasksMayBe(c api.Config, j api.Job) bool {
	if len(j.Tasks) > api.MaxTasks {
		return false
	}
	low := 1
	for i, t := range j.Tasks {
		if !bounds.Within(t.Ask, low, j.Asks) || !taskMayBe(c, t) {
			return false
		}
		// Nothing more is asked for, and nothing is committed, while a task waits.
		if !t.Done && (i < len(j.Tasks)-1 || j.State != api.Active) {
			return false
		}
		low = t.Ask + 1
	}
	return true
}

// taskMayBe: by itself; its place, and its Ask, hang on the job.
func taskMayBe(c api.Config, t api.Task) bool {
	if !bounds.Label(c, t.Label) || !bounds.Key(t.Key) || !bounds.Value(t.Value) || !bounds.Within(t.Version, 0, api.MaxVersion) {
		return false
	}
	if t.Done {
		return true
	}
	return !t.Sure && (t.Write || t.Value == 0 && t.Version == 0)
}

// refuse what all calls but Check refuse.
func refuse(c api.Config, l, me int, d api.Desk) api.Errno {
	if e := Check(c, d); e != api.OK {
		return e
	}
	if !bounds.Label(c, l) {
		return api.ErrNone
	}
	if !bounds.Site(c, me) {
		return api.ErrRange
	}
	return api.OK
}
