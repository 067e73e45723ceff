package jobs_test

import (
	"math"
	"testing"

	"vergers/api"
	"vergers/jobs"
)

// state is all that can be asked of a table.
type state struct {
	jobs [api.MaxJobs]api.Job
	now  int
}

func look(x *jobs.Table) state {
	s := state{now: x.Now()}
	for n := range s.jobs {
		s.jobs[n] = x.Job(n)
	}
	return s
}

func add(now, job int) api.Order { return api.Order{Kind: api.OAdd, Now: now, Job: job} }

func take(now, worker, term int) api.Order {
	return api.Order{Kind: api.OTake, Now: now, Worker: worker, Term: term}
}

func renew(now, job, try, worker, term int) api.Order {
	return api.Order{Kind: api.ORenew, Now: now, Job: job, Try: try, Worker: worker, Term: term}
}

func done(now, job, try, worker int) api.Order {
	return api.Order{Kind: api.ODone, Now: now, Job: job, Try: try, Worker: worker}
}

func drop(now, job, try, worker int) api.Order {
	return api.Order{Kind: api.ODrop, Now: now, Job: job, Try: try, Worker: worker}
}

func made(t *testing.T, orders ...api.Order) *jobs.Table {
	t.Helper()
	x := jobs.New()
	for _, o := range orders {
		if a := x.Do(o); a.Code != 0 {
			t.Fatalf("Do(%+v) = %+v, want no code", o, a)
		}
	}
	return x
}

func wantAnswer(t *testing.T, x *jobs.Table, o api.Order, want api.Answer) {
	t.Helper()
	if got := x.Do(o); got != want {
		t.Errorf("Do(%+v) = %+v, want %+v", o, got, want)
	}
}

// wantRefused: the code alone is answered, and nothing is changed.
func wantRefused(t *testing.T, x *jobs.Table, o api.Order, code int) {
	t.Helper()
	ahead := look(x)
	wantAnswer(t, x, o, api.Answer{Code: code})
	if behind := look(x); behind != ahead {
		t.Errorf("Do(%+v): refused, but %+v became %+v", o, ahead, behind)
	}
}

func wantJob(t *testing.T, x *jobs.Table, n int, want api.Job) {
	t.Helper()
	if got := x.Job(n); got != want {
		t.Errorf("Job(%d) = %+v, want %+v", n, got, want)
	}
}

func wantNow(t *testing.T, x *jobs.Table, want int) {
	t.Helper()
	if got := x.Now(); got != want {
		t.Errorf("Now() = %d, want %d", got, want)
	}
}

// onLastTry: job 0 is held by worker 2 as the last try from 20 till 30.
func onLastTry(t *testing.T) *jobs.Table {
	t.Helper()
	return made(t, add(0, 0), take(0, 0, 10), take(10, 1, 10), take(20, 2, 10))
}

func TestNewIsEmpty(t *testing.T) {
	if got := look(jobs.New()); got != (state{}) {
		t.Errorf("a new table is %+v, want all Absent at 0", got)
	}
	used := made(t, add(5, 0))
	if got := look(jobs.New()); got != (state{}) {
		t.Errorf("a new table beside one at %d is %+v, want all Absent at 0", used.Now(), got)
	}
}

func TestJobOfNoSuchNumber(t *testing.T) {
	x := jobs.New()
	for n := 0; n < api.MaxJobs; n++ {
		wantAnswer(t, x, add(0, n), api.Answer{})
	}
	for _, n := range append([]int{api.MaxJobs, api.MaxJobs + 1}, far...) {
		wantJob(t, x, n, api.Job{})
	}
}

func TestAdd(t *testing.T) {
	for _, n := range []int{0, 3, api.MaxJobs - 1} {
		x := jobs.New()
		wantAnswer(t, x, add(4, n), api.Answer{})
		want := state{now: 4}
		want.jobs[n] = api.Job{State: api.Waiting}
		if got := look(x); got != want {
			t.Errorf("behind add %d: %+v, want %+v", n, got, want)
		}
	}
}

func TestAddOfOneThatIsThere(t *testing.T) {
	wantRefused(t, made(t, add(0, 1)), add(1, 1), api.ErrThere)
	wantRefused(t, made(t, add(0, 1), take(0, 0, 5)), add(1, 1), api.ErrThere)
	wantRefused(t, made(t, add(0, 1), take(0, 0, 5)), add(9, 1), api.ErrThere)
	wantRefused(t, made(t, add(0, 1), take(0, 0, 5), done(1, 1, 1, 0)), add(2, 1), api.ErrThere)
	lost := onLastTry(t)
	wantAnswer(t, lost, add(30, 1), api.Answer{})
	wantRefused(t, lost, add(31, 0), api.ErrThere)
}

func TestTakeGivesTheFirstThatWaits(t *testing.T) {
	x := made(t, add(0, 5), add(0, 2), add(0, 4))
	wantAnswer(t, x, take(3, 3, 20), api.Answer{Job: 2, Try: 1})
	wantJob(t, x, 2, api.Job{State: api.Held, Worker: 3, Try: 1, Until: 23})
	wantAnswer(t, x, take(3, 0, 1), api.Answer{Job: 4, Try: 1})
	wantJob(t, x, 4, api.Job{State: api.Held, Worker: 0, Try: 1, Until: 4})
	wantAnswer(t, x, add(3, 0), api.Answer{})
	wantAnswer(t, x, take(3, 3, 2), api.Answer{Job: 0, Try: 1})
	wantAnswer(t, x, take(3, 3, 2), api.Answer{Job: 5, Try: 1})
	wantRefused(t, x, take(3, 3, 2), api.ErrNone)
}

func TestTakeWhereNoneWaits(t *testing.T) {
	wantRefused(t, jobs.New(), take(9, 0, 1), api.ErrNone)
	wantRefused(t, made(t, add(0, 0), take(0, 0, 5)), take(4, 1, 5), api.ErrNone)
	wantRefused(t, made(t, add(0, 0), take(0, 0, 5), done(1, 0, 1, 0)), take(50, 1, 5), api.ErrNone)
	wantRefused(t, onLastTry(t), take(30, 1, 5), api.ErrNone)
}

func TestTakeAtTheEdges(t *testing.T) {
	x := made(t, add(0, api.MaxJobs-1))
	wantAnswer(t, x, take(api.MaxTime, api.Workers-1, api.MaxTerm), api.Answer{Job: api.MaxJobs - 1, Try: 1})
	wantJob(t, x, api.MaxJobs-1, api.Job{State: api.Held, Worker: api.Workers - 1, Try: 1, Until: api.MaxTime + api.MaxTerm})
	wantNow(t, x, api.MaxTime)
	wantRefused(t, x, take(api.MaxTime, 0, 1), api.ErrNone)
	wantAnswer(t, x, done(api.MaxTime, api.MaxJobs-1, 1, api.Workers-1), api.Answer{})
}

func TestAHoldEndsAtItsTime(t *testing.T) {
	held := made(t, add(0, 0), take(0, 1, 5))
	early := held.Own()
	wantRefused(t, early, take(4, 2, 5), api.ErrNone)
	wantAnswer(t, early, add(4, 1), api.Answer{})
	wantJob(t, early, 0, api.Job{State: api.Held, Worker: 1, Try: 1, Until: 5})
	just := held.Own()
	wantAnswer(t, just, add(5, 1), api.Answer{})
	wantJob(t, just, 0, api.Job{State: api.Waiting, Try: 1})
	later := held.Own()
	wantAnswer(t, later, add(6, 1), api.Answer{})
	wantJob(t, later, 0, api.Job{State: api.Waiting, Try: 1})
}

func TestBehindItsTimeItIsAnothers(t *testing.T) {
	x := made(t, add(0, 0), take(0, 1, 5))
	wantAnswer(t, x, take(5, 2, 5), api.Answer{Job: 0, Try: 2})
	wantJob(t, x, 0, api.Job{State: api.Held, Worker: 2, Try: 2, Until: 10})
	wantRefused(t, x, done(6, 0, 1, 1), api.ErrOther)
	wantRefused(t, x, renew(6, 0, 1, 1, 5), api.ErrOther)
	wantRefused(t, x, drop(6, 0, 1, 1), api.ErrOther)
	wantAnswer(t, x, done(6, 0, 2, 2), api.Answer{})
}

func TestSeveralHoldsEndAtOnce(t *testing.T) {
	x := made(t, add(0, 0), add(0, 1), add(0, 2), take(0, 0, 9), take(0, 1, 3), take(0, 2, 6))
	wantAnswer(t, x, add(6, 5), api.Answer{})
	wantJob(t, x, 0, api.Job{State: api.Held, Worker: 0, Try: 1, Until: 9})
	wantJob(t, x, 1, api.Job{State: api.Waiting, Try: 1})
	wantJob(t, x, 2, api.Job{State: api.Waiting, Try: 1})
	wantAnswer(t, x, take(9, 3, 1), api.Answer{Job: 0, Try: 2})
	wantAnswer(t, x, take(9, 3, 1), api.Answer{Job: 1, Try: 2})
	wantAnswer(t, x, take(9, 3, 1), api.Answer{Job: 2, Try: 2})
	wantAnswer(t, x, take(9, 3, 1), api.Answer{Job: 5, Try: 1})
}

func TestTheLastTryIsLost(t *testing.T) {
	held := onLastTry(t)
	wantJob(t, held, 0, api.Job{State: api.Held, Worker: 2, Try: api.MaxTries, Until: 30})
	early := held.Own()
	wantAnswer(t, early, add(29, 1), api.Answer{})
	wantJob(t, early, 0, api.Job{State: api.Held, Worker: 2, Try: api.MaxTries, Until: 30})
	just := held.Own()
	wantAnswer(t, just, add(30, 1), api.Answer{})
	wantJob(t, just, 0, api.Job{State: api.Lost, Try: api.MaxTries})
	wantAnswer(t, just, take(30, 0, 1), api.Answer{Job: 1, Try: 1})
	dropped := held.Own()
	wantAnswer(t, dropped, drop(21, 0, api.MaxTries, 2), api.Answer{})
	wantJob(t, dropped, 0, api.Job{State: api.Lost, Try: api.MaxTries})
	wantRefused(t, dropped, take(21, 0, 1), api.ErrNone)
	finished := held.Own()
	wantAnswer(t, finished, done(29, 0, api.MaxTries, 2), api.Answer{})
	wantJob(t, finished, 0, api.Job{State: api.Done, Worker: 2, Try: api.MaxTries})
	renewed := held.Own()
	wantAnswer(t, renewed, renew(29, 0, api.MaxTries, 2, 4), api.Answer{})
	wantJob(t, renewed, 0, api.Job{State: api.Held, Worker: 2, Try: api.MaxTries, Until: 33})
}

func TestTheOneAheadOfTheLastTryIsNotLost(t *testing.T) {
	x := made(t, add(0, 0), take(0, 0, 10), take(10, 1, 10))
	wantAnswer(t, x, drop(11, 0, 2, 1), api.Answer{})
	wantJob(t, x, 0, api.Job{State: api.Waiting, Try: 2})
	wantAnswer(t, x, take(11, 1, 1), api.Answer{Job: 0, Try: 3})
}

func TestRenew(t *testing.T) {
	x := made(t, add(0, 3), take(0, 1, 10))
	wantAnswer(t, x, renew(9, 3, 1, 1, 20), api.Answer{})
	wantJob(t, x, 3, api.Job{State: api.Held, Worker: 1, Try: 1, Until: 29})
	wantNow(t, x, 9)
	wantAnswer(t, x, renew(9, 3, 1, 1, 1), api.Answer{})
	wantJob(t, x, 3, api.Job{State: api.Held, Worker: 1, Try: 1, Until: 10})
	wantRefused(t, x, renew(10, 3, 1, 1, 5), api.ErrOther)
	wantAnswer(t, x, renew(2, 3, 1, 1, 5), api.Answer{})
	wantJob(t, x, 3, api.Job{State: api.Held, Worker: 1, Try: 1, Until: 14})
}

func TestDone(t *testing.T) {
	x := made(t, add(0, 3), take(0, 1, 10))
	wantRefused(t, x, done(10, 3, 1, 1), api.ErrOther)
	wantAnswer(t, x, done(9, 3, 1, 1), api.Answer{})
	finished := api.Job{State: api.Done, Worker: 1, Try: 1}
	wantJob(t, x, 3, finished)
	wantNow(t, x, 9)
	wantRefused(t, x, done(9, 3, 1, 1), api.ErrOther)
	wantRefused(t, x, drop(9, 3, 1, 1), api.ErrOther)
	wantRefused(t, x, renew(9, 3, 1, 1, 1), api.ErrOther)
	wantAnswer(t, x, add(api.MaxTime, 0), api.Answer{})
	wantJob(t, x, 3, finished)
}

func TestDrop(t *testing.T) {
	x := made(t, add(0, 3), take(0, 1, 10))
	wantRefused(t, x, drop(10, 3, 1, 1), api.ErrOther)
	wantAnswer(t, x, drop(9, 3, 1, 1), api.Answer{})
	wantJob(t, x, 3, api.Job{State: api.Waiting, Try: 1})
	wantNow(t, x, 9)
	wantRefused(t, x, drop(9, 3, 1, 1), api.ErrOther)
	wantAnswer(t, x, take(9, 1, 10), api.Answer{Job: 3, Try: 2})
}

// heldOnly are the orders that only who holds the job may give.
func heldOnly(now, job, try, worker int) []api.Order {
	return []api.Order{renew(now, job, try, worker, 5), done(now, job, try, worker), drop(now, job, try, worker)}
}

func TestOrdersForAJobThatIsAbsent(t *testing.T) {
	x := made(t, add(0, 1), take(0, 0, 5))
	for _, n := range []int{0, 2, api.MaxJobs - 1} {
		for _, o := range heldOnly(1, n, 1, 0) {
			wantRefused(t, x, o, api.ErrNone)
		}
	}
}

func TestOrdersOfOneWhoDoesNotHoldTheJob(t *testing.T) {
	x := made(t, add(0, 0), add(0, 1), add(0, 2), add(0, 3))
	for _, o := range []api.Order{take(0, 0, 20), take(0, 1, 20), take(0, 2, 1), drop(0, 0, 1, 0), take(0, 0, 20), take(1, 0, 1), done(1, 1, 1, 1), drop(1, 2, 2, 0)} {
		if a := x.Do(o); a.Code != 0 {
			t.Fatalf("Do(%+v) = %+v", o, a)
		}
	}
	want := state{now: 1}
	want.jobs[0] = api.Job{State: api.Held, Worker: 0, Try: 2, Until: 20}
	want.jobs[1] = api.Job{State: api.Done, Worker: 1, Try: 1}
	want.jobs[2] = api.Job{State: api.Waiting, Try: 2}
	want.jobs[3] = api.Job{State: api.Waiting}
	if got := look(x); got != want {
		t.Fatalf("%+v, want %+v", got, want)
	}
	for job := 0; job <= 3; job++ {
		for try := 1; try <= api.MaxTries; try++ {
			for worker := 0; worker < api.Workers; worker++ {
				if job == 0 && try == 2 && worker == 0 {
					continue
				}
				for _, o := range heldOnly(1, job, try, worker) {
					wantRefused(t, x, o, api.ErrOther)
				}
			}
		}
	}
}

func TestOrdersForAJobThatIsLost(t *testing.T) {
	x := onLastTry(t)
	wantAnswer(t, x, add(30, 1), api.Answer{})
	for try := 1; try <= api.MaxTries; try++ {
		for worker := 0; worker < api.Workers; worker++ {
			for _, o := range heldOnly(30, 0, try, worker) {
				wantRefused(t, x, o, api.ErrOther)
			}
		}
	}
}

func TestTheTimeIsNeverEarlier(t *testing.T) {
	x := made(t, add(10, 0), add(3, 1))
	wantNow(t, x, 10)
	wantAnswer(t, x, take(0, 2, 5), api.Answer{Job: 0, Try: 1})
	wantJob(t, x, 0, api.Job{State: api.Held, Worker: 2, Try: 1, Until: 15})
	wantNow(t, x, 10)
	wantAnswer(t, x, add(15, 2), api.Answer{})
	wantRefused(t, x, done(14, 0, 1, 2), api.ErrOther)
	wantNow(t, x, 15)
	wantAnswer(t, x, add(api.MaxTime, 3), api.Answer{})
	wantAnswer(t, x, add(0, 4), api.Answer{})
	wantNow(t, x, api.MaxTime)
}

func TestBehindACodeNotEvenTheTimeIsChanged(t *testing.T) {
	x := made(t, add(0, 0), add(0, 1), take(0, 1, 5))
	wantRefused(t, x, add(50, 0), api.ErrThere)
	wantRefused(t, x, done(50, 0, 1, 1), api.ErrOther)
	wantRefused(t, x, done(50, 4, 1, 1), api.ErrNone)
	wantRefused(t, x, add(50, api.MaxJobs), api.ErrRange)
	wantRefused(t, x, api.Order{Kind: api.OAdd, Now: 50, Job: 2, Worker: 1}, api.ErrForm)
	wantRefused(t, x, api.Order{Kind: 6, Now: 50}, api.ErrKind)
	wantAnswer(t, x, done(4, 0, 1, 1), api.Answer{})
}

func TestDoTellsChecksCode(t *testing.T) {
	x := made(t, add(0, 2), take(0, 2, 5))
	for _, o := range sound {
		for _, kind := range []int{0, 6, math.MinInt64, math.MaxInt64} {
			wrong := o
			wrong.Kind = kind
			wantRefused(t, x, wrong, api.ErrKind)
		}
		for _, p := range partList() {
			for _, n := range far {
				code := api.ErrForm
				if p.isOf(o.Kind) {
					code = api.ErrRange
				}
				wantRefused(t, x, p.set(o, n), code)
			}
		}
	}
}

func TestChecksCodeIsToldAheadOfTheTables(t *testing.T) {
	x := made(t, add(0, 0))
	wantRefused(t, x, api.Order{Kind: api.OAdd, Now: -1}, api.ErrRange)
	wantRefused(t, x, api.Order{Kind: api.OAdd, Term: 1}, api.ErrForm)
	wantRefused(t, jobs.New(), take(0, api.Workers, 1), api.ErrRange)
	wantRefused(t, x, done(0, 1, 0, 0), api.ErrRange)
}

func TestOwnIsOfItsOwn(t *testing.T) {
	x := made(t, add(2, 0), take(2, 1, 5))
	ahead := look(x)
	own := x.Own()
	if got := look(own); got != ahead {
		t.Fatalf("Own: %+v, want %+v", got, ahead)
	}
	wantAnswer(t, own, done(3, 0, 1, 1), api.Answer{})
	wantAnswer(t, own, add(9, 5), api.Answer{})
	if got := look(x); got != ahead {
		t.Errorf("its own was ordered, and %+v became %+v", ahead, got)
	}
	changed := look(own)
	wantAnswer(t, x, drop(4, 0, 1, 1), api.Answer{})
	if got := look(own); got != changed {
		t.Errorf("the first was ordered, and its own's %+v became %+v", changed, got)
	}
}
