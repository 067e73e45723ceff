// Package jobs: see doc/01-jobs.md.
package jobs

import (
	"vergers/api"
)

// Table is all jobs, at a time.
type Table struct {
	all [api.MaxJobs]api.Job
	now int
}

// New answers a table whose jobs are all Absent, at the time 0.
func New() *Table { return &Table{} }

// Job answers a zero one where there is none, so that it looks Absent.
func (t *Table) Job(n int) api.Job {
	if !isJob(n) {
		return api.Job{}
	}
	return t.all[n]
}

// Now answers the time.
func (t *Table) Now() int { return t.now }

// Own answers a table like t that shares nothing with it.
func (t *Table) Own() *Table {
	own := *t
	return &own
}

// Do works on a table of its own first: whether an order is refused is known
// only when time has gone by, and a refused one must not let it go by.
func (t *Table) Do(o api.Order) api.Answer {
	if code := Check(o); code != 0 {
		return api.Answer{Code: code}
	}
	next := t.Own()
	next.pass(o.Now)
	answer := next.obey(o)
	if answer.Code == 0 {
		*t = *next
	}
	return answer
}

// pass never turns the time back: orders may come with an earlier Now.
func (t *Table) pass(now int) {
	t.now = max(t.now, now)
	for n := range t.all {
		if j := t.all[n]; j.State == api.Held && j.Until <= t.now {
			t.all[n] = released(j)
		}
	}
}

// released is how a job is that nobody holds any more, though it is not done.
func released(j api.Job) api.Job {
	if j.Try == api.MaxTries {
		return api.Job{State: api.Lost, Try: j.Try}
	}
	return api.Job{State: api.Waiting, Try: j.Try}
}

// obey is given orders that Check lets through.
func (t *Table) obey(o api.Order) api.Answer {
	switch o.Kind {
	case api.OAdd:
		return t.add(o.Job)
	case api.OTake:
		return t.take(o.Worker, o.Term)
	}
	return t.heed(o)
}

func (t *Table) add(n int) api.Answer {
	if t.all[n].State != api.Absent {
		return api.Answer{Code: api.ErrThere}
	}
	t.all[n] = api.Job{State: api.Waiting}
	return api.Answer{}
}

func (t *Table) take(worker, term int) api.Answer {
	for n := range t.all {
		if j := t.all[n]; j.State == api.Waiting {
			t.all[n] = api.Job{State: api.Held, Worker: worker, Try: j.Try + 1, Until: t.now + term}
			return api.Answer{Job: n, Try: j.Try + 1}
		}
	}
	return api.Answer{Code: api.ErrNone}
}

// heed does the orders that only who holds the job may give.
func (t *Table) heed(o api.Order) api.Answer {
	j := t.all[o.Job]
	if j.State == api.Absent {
		return api.Answer{Code: api.ErrNone}
	}
	if j.State != api.Held || j.Worker != o.Worker || j.Try != o.Try {
		return api.Answer{Code: api.ErrOther}
	}
	switch o.Kind {
	case api.ORenew:
		j.Until = t.now + o.Term
	case api.ODone:
		j.State, j.Until = api.Done, 0
	case api.ODrop:
		j = released(j)
	}
	t.all[o.Job] = j
	return api.Answer{}
}
