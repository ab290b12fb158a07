package recover_test

import (
	"fmt"
	"testing"

	"reredos/api"
)

// TestBegan: P8.1: Next is above all numbers of the site.
func TestBegan(t *testing.T) {
	for _, n := range []int{1, 2, 77, api.MaxNumber} {
		comesDesk(t, fmt.Sprint("began ", n), api.Desk{Next: n + 1}, began(own(n)))
		comesDesk(t, fmt.Sprint("began ", n, " twice"), api.Desk{Next: n + 1}, began(own(n)), began(own(n)))
		comesDesk(t, fmt.Sprint("another's ", n), api.Desk{Next: 1}, began(other(n)), began(third(n)))
	}
	comesDesk(t, "they rise", api.Desk{Next: 10}, began(own(2)), began(own(3)), began(own(9)))
	comesDesk(t, "they fall", api.Desk{Next: 10}, began(own(9)), began(own(3)), began(other(12)), began(own(8)))
}

// TestCommitted: P8.1: a job that is Telling, at its place by N.
func TestCommitted(t *testing.T) {
	for _, sites := range [][]int{{0}, {1}, {2}, {0, 2}, {1, 2}, {0, 1, 2}} {
		comesDesk(t, "sites", api.Desk{Next: 5, Jobs: []api.Job{telling(3, sites...)}}, began(own(4)), committed(own(3), sites...))
	}
	three := api.Desk{Next: 10, Jobs: []api.Job{telling(1, 2), telling(4, 0, 1), telling(9, 1)}}
	one, four, nine := committed(own(1), 2), committed(own(4), 0, 1), committed(own(9), 1)
	for _, l := range [][]api.Record{{one, four, nine}, {one, nine, four}, {four, one, nine}, {four, nine, one}, {nine, one, four}, {nine, four, one}} {
		comesDesk(t, "by their numbers", three, append([]api.Record{began(own(9))}, l...)...)
	}
	comesDesk(t, "the greatest", api.Desk{Next: api.MaxNumber + 1, Jobs: []api.Job{telling(api.MaxNumber, 0)}}, began(own(api.MaxNumber)), committed(own(api.MaxNumber), 0))
}

// TestCommittedNothing: P8.1: where nothing comes of a Committed.
func TestCommittedNothing(t *testing.T) {
	comesDesk(t, "of another site", api.Desk{Next: 10}, began(own(9)), began(other(9)), committed(other(2), 1), committed(third(2), 0, 1, 2))
	comesDesk(t, "there is such a job", api.Desk{Next: 10, Jobs: []api.Job{telling(2, 0, 1)}}, began(own(9)), committed(own(2), 0, 1), committed(own(2), 2), committed(own(2), 0, 1))
	comesDesk(t, "no sites", api.Desk{Next: 10}, began(own(9)), committed(own(2)))
	comesDesk(t, "no sites, then some", api.Desk{Next: 10, Jobs: []api.Job{telling(2, 1)}}, began(own(9)), committed(own(2)), committed(own(2), 1))
	comesDesk(t, "nothing was begun", api.Desk{Next: 1}, committed(own(1), 1))
	comesDesk(t, "it is Next", api.Desk{Next: 4}, began(own(3)), committed(own(4), 1))
	comesDesk(t, "above Next", api.Desk{Next: 4}, began(own(3)), committed(own(5), 1))
	comesDesk(t, "begun too late", api.Desk{Next: 5}, began(own(3)), committed(own(4), 1), began(own(4)))
	comesDesk(t, "begun by another site", api.Desk{Next: 1}, began(other(4)), committed(own(3), 1))
	comesDesk(t, "begun later on", api.Desk{Next: 5, Jobs: []api.Job{telling(4, 2)}}, committed(own(4), 1), began(own(4)), committed(own(4), 2))
}

// TestMaxTxns: P8.1: there are no more jobs than that, in whichever place one would stand.
func TestMaxTxns(t *testing.T) {
	l := []api.Record{began(own(99))}
	want := api.Desk{Next: 100}
	for i := range api.MaxTxns {
		comesDesk(t, fmt.Sprint(i, " jobs"), want, l...)
		l = append(l, committed(own(10*(i+1)), i%3))
		want.Jobs = append(want.Jobs, telling(10*(i+1), i%3))
	}
	comesDesk(t, "as many as may be", want, l...)
	for _, n := range []int{1, 15, 99} {
		comesDesk(t, "one too many", want, append(l, committed(own(n), 2))...)
	}
	less := api.Desk{Next: 100, Jobs: append([]api.Job{telling(1, 2)}, want.Jobs[1:]...)}
	comesDesk(t, "one is free again", less, append(l, committed(own(2), 2), ended(own(10)), committed(own(1), 2), committed(own(10), 0))...)
}

// TestEnded: P8.1: that job is there no more.
func TestEnded(t *testing.T) {
	l := []api.Record{began(own(9)), committed(own(2), 0), committed(own(5), 0, 1), committed(own(9), 2)}
	two, five, nine := telling(2, 0), telling(5, 0, 1), telling(9, 2)
	for n, jobs := range map[int][]api.Job{2: {five, nine}, 5: {two, nine}, 9: {two, five}, 1: {two, five, nine}, 10: {two, five, nine}} {
		want := api.Desk{Next: 10, Jobs: jobs}
		comesDesk(t, fmt.Sprint("ended ", n), want, append(l, ended(own(n)))...)
		comesDesk(t, fmt.Sprint("ended ", n, " twice"), want, append(l, ended(own(n)), ended(own(n)))...)
		comesDesk(t, fmt.Sprint("another's ", n), api.Desk{Next: 10, Jobs: []api.Job{two, five, nine}}, append(l, ended(other(n)), ended(third(n)))...)
	}
	comesDesk(t, "all of them", api.Desk{Next: 10}, append(l, ended(own(9)), ended(own(2)), ended(own(5)))...)
	comesDesk(t, "ended ahead", api.Desk{Next: 10, Jobs: []api.Job{two}}, began(own(9)), ended(own(2)), committed(own(2), 0))
	comesDesk(t, "committed anew", api.Desk{Next: 10, Jobs: []api.Job{telling(2, 1)}}, began(own(9)), committed(own(2), 0), ended(own(2)), committed(own(2), 1))
}
