package jobs

import (
	"vergers/api"
)

// parts says which numbers a kind of order has; Now they all have.
type parts struct{ job, try, worker, term bool }

// Check answers the code of an order that no table would do.
func Check(o api.Order) int {
	has, known := partsOf(o.Kind)
	switch {
	case !known:
		return api.ErrKind
	case !inForm(o, has):
		return api.ErrForm
	case !inRange(o, has):
		return api.ErrRange
	}
	return 0
}

func partsOf(kind int) (parts, bool) {
	switch kind {
	case api.OAdd:
		return parts{job: true}, true
	case api.OTake:
		return parts{worker: true, term: true}, true
	case api.ORenew:
		return parts{job: true, try: true, worker: true, term: true}, true
	case api.ODone, api.ODrop:
		return parts{job: true, try: true, worker: true}, true
	}
	return parts{}, false
}

func inForm(o api.Order, has parts) bool {
	return (has.job || o.Job == 0) &&
		(has.try || o.Try == 0) &&
		(has.worker || o.Worker == 0) &&
		(has.term || o.Term == 0)
}

// inRange may look at Job and Worker of every kind: where a kind has none they
// are 0 by its form, and there is a job 0 and a worker 0. There is no try 0
// and no term 0.
func inRange(o api.Order, has parts) bool {
	return within(o.Now, 0, api.MaxTime) &&
		isJob(o.Job) &&
		within(o.Worker, 0, api.Workers-1) &&
		(!has.try || within(o.Try, 1, api.MaxTries)) &&
		(!has.term || within(o.Term, 1, api.MaxTerm))
}

func isJob(n int) bool { return within(n, 0, api.MaxJobs-1) }

func within(n, low, high int) bool { return low <= n && n <= high }
