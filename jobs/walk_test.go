package jobs_test

import (
	"math"
	"testing"

	"vergers/api"
	"vergers/jobs"
)

// dice answers numbers that look thrown, the same ones of each seed.
type dice uint64

func (d *dice) throw(n int) int {
	*d = *d*6364136223846793005 + 1442695040888963407
	return int(uint64(*d)>>33) % n
}

// throwOrder makes orders that mostly have no code of Check, near the time.
func throwOrder(d *dice, now int) api.Order {
	now = min(max(now+d.throw(9)-3, 0), api.MaxTime)
	job, try := d.throw(api.MaxJobs), 1+d.throw(api.MaxTries)
	worker, term := d.throw(api.Workers), 1+d.throw(api.MaxTerm)
	switch d.throw(8) {
	case 0:
		return add(now, job)
	case 1, 2, 3:
		return take(now, worker, term)
	case 4:
		return renew(now, job, try, worker, term)
	case 5:
		return done(now, job, try, worker)
	case 6:
		return drop(now, job, try, worker)
	}
	return api.Order{Kind: d.throw(8), Now: now, Job: d.throw(8) - 1, Try: d.throw(6) - 1, Worker: d.throw(6) - 1, Term: d.throw(23) - 1}
}

// story is what the answers have told so far.
type story struct {
	given, finished [api.MaxJobs]int
	holder          [api.MaxJobs]int
}

func (s *story) hear(t *testing.T, o api.Order, a api.Answer) {
	t.Helper()
	if a.Code != 0 {
		return
	}
	switch o.Kind {
	case api.OTake:
		s.given[a.Job]++
		s.holder[a.Job] = o.Worker
		if a.Try != s.given[a.Job] || a.Try > api.MaxTries {
			t.Fatalf("%+v: job %d was given as try %d, want try %d", o, a.Job, a.Try, s.given[a.Job])
		}
	case api.ODone:
		s.finished[o.Job]++
		if s.finished[o.Job] != 1 {
			t.Fatalf("%+v: job %d was done %d times", o, o.Job, s.finished[o.Job])
		}
		if o.Worker != s.holder[o.Job] || o.Try != s.given[o.Job] {
			t.Fatalf("%+v: done by one who did not hold it last", o)
		}
	}
}

func wellFormed(j api.Job, now int) bool {
	switch j.State {
	case api.Absent:
		return j == api.Job{}
	case api.Waiting:
		return j.Worker == 0 && j.Until == 0 && 0 <= j.Try && j.Try < api.MaxTries
	case api.Held:
		return 1 <= j.Try && j.Try <= api.MaxTries && now < j.Until && j.Until <= now+api.MaxTerm
	case api.Done:
		return 1 <= j.Try && j.Try <= api.MaxTries && j.Until == 0
	case api.Lost:
		return j == api.Job{State: api.Lost, Try: api.MaxTries}
	}
	return false
}

// wantStep: what must hold between ahead and behind, whatever the order.
func wantStep(t *testing.T, o api.Order, a api.Answer, ahead, behind state) {
	t.Helper()
	if code := jobs.Check(o); code != 0 && a.Code != code {
		t.Fatalf("%+v: %+v, want Check's code %d", o, a, code)
	}
	if a.Code != 0 {
		if ahead != behind || a != (api.Answer{Code: a.Code}) {
			t.Fatalf("%+v: %+v: %+v became %+v", o, a, ahead, behind)
		}
		return
	}
	if behind.now != max(ahead.now, o.Now) {
		t.Fatalf("%+v: the time %d became %d", o, ahead.now, behind.now)
	}
	for n, j := range behind.jobs {
		was := ahead.jobs[n]
		if !wellFormed(j, behind.now) {
			t.Fatalf("%+v: job %d is %+v at %d", o, n, j, behind.now)
		}
		if (was.State == api.Done || was.State == api.Lost) && j != was {
			t.Fatalf("%+v: job %d: %+v became %+v", o, n, was, j)
		}
		if o.Kind == api.OTake && n < a.Job && j.State == api.Waiting {
			t.Fatalf("%+v: job %d was given, though %d waits", o, a.Job, n)
		}
	}
}

func TestNoTryIsGivenTwiceAndDoneIsDone(t *testing.T) {
	var all story
	lost := 0
	for seed := 0; seed < 400; seed++ {
		d := dice(seed)
		x, twin := jobs.New(), jobs.New()
		var told story
		for range 300 {
			o := throwOrder(&d, x.Now())
			ahead := look(x)
			a := x.Do(o)
			if b := twin.Do(o); a != b || look(x) != look(twin) {
				t.Fatalf("%+v: two like tables answered %+v and %+v", o, a, b)
			}
			wantStep(t, o, a, ahead, look(x))
			told.hear(t, o, a)
			if d.throw(10) == 0 {
				x = x.Own()
			}
		}
		for n, j := range look(x).jobs {
			if j.Try != told.given[n] || (j.State == api.Done) != (told.finished[n] == 1) {
				t.Fatalf("job %d is %+v, but was given %d times and done %d times", n, j, told.given[n], told.finished[n])
			}
			all.given[n] += told.given[n]
			all.finished[n] += told.finished[n]
			if j.State == api.Lost {
				lost++
			}
		}
	}
	for n := range all.given {
		if all.given[n] == 0 || all.finished[n] == 0 || lost == 0 {
			t.Fatalf("the walks did too little: %+v, %d lost", all, lost)
		}
	}
}

func TestNoCallPanicsWhateverItIsGiven(t *testing.T) {
	edges := []int{math.MinInt64, -1, 0, 1, 3, 6, 60001, math.MaxInt64}
	x := made(t, add(0, 0), add(0, 1), add(0, 3), take(0, 1, 20), take(0, 3, 20))
	for kind := -1; kind <= 6; kind++ {
		for _, now := range edges {
			for _, job := range edges {
				for _, try := range edges {
					for _, worker := range edges {
						for _, term := range edges {
							o := api.Order{Kind: kind, Now: now, Job: job, Try: try, Worker: worker, Term: term}
							own := x.Own()
							ahead := look(own)
							wantStep(t, o, own.Do(o), ahead, look(own))
						}
					}
				}
			}
		}
	}
	for _, n := range edges {
		x.Job(n)
	}
}
