package story_test

import (
	"math"
	"slices"
	"testing"

	"vergers/api"
	"vergers/codec"
	"vergers/jobs"
	"vergers/story"
)

// far are numbers that are in nobody's range, some of them like small ones in
// their last bytes.
var far = []int{math.MinInt64, math.MinInt64 + 1, -1<<32 + 1, -1 << 32, -256, -255, -1, 1<<16 + 1, 1 << 32, 1<<32 + 1, math.MaxInt64 - 1, math.MaxInt64}

func add(job int) api.Order { return api.Order{Kind: api.OAdd, Job: job} }

func take(worker, term int) api.Order {
	return api.Order{Kind: api.OTake, Worker: worker, Term: term}
}

func renew(job, try, worker, term int) api.Order {
	return api.Order{Kind: api.ORenew, Job: job, Try: try, Worker: worker, Term: term}
}

func done(job, try, worker int) api.Order {
	return api.Order{Kind: api.ODone, Job: job, Try: try, Worker: worker}
}

func drop(job, try, worker int) api.Order {
	return api.Order{Kind: api.ODrop, Job: job, Try: try, Worker: worker}
}

func at(now int, o api.Order) api.Order {
	o.Now = now
	return o
}

func held(worker, try, until int) api.Job {
	return api.Job{State: api.Held, Worker: worker, Try: try, Until: until}
}

func waiting(try int) api.Job { return api.Job{State: api.Waiting, Try: try} }

func finished(worker, try int) api.Job {
	return api.Job{State: api.Done, Worker: worker, Try: try}
}

var lost = api.Job{State: api.Lost, Try: api.MaxTries}

// event is what is wanted of an order of an epoch.
func event(epoch int, o api.Order, answer api.Answer, job api.Job) story.Event {
	return story.Event{Record: api.Record{Epoch: epoch, Order: o}, Answer: answer, Job: job}
}

// became is an event whose order is answered without a code, a job or a try.
func became(epoch int, o api.Order, job api.Job) story.Event {
	return event(epoch, o, api.Answer{}, job)
}

// gave is an event of a job that is taken.
func gave(epoch int, o api.Order, job int, how api.Job) story.Event {
	return event(epoch, o, api.Answer{Job: job, Try: how.Try}, how)
}

// refused is an event whose order has a code.
func refused(epoch int, o api.Order, code int) story.Event {
	return event(epoch, o, api.Answer{Code: code}, api.Job{})
}

func joined(t *testing.T, records ...api.Record) []byte {
	t.Helper()
	var all []byte
	for _, r := range records {
		b, code := codec.Encode(r)
		if code != 0 {
			t.Fatalf("Encode(%+v): code %d", r, code)
		}
		all = append(all, b...)
	}
	return all
}

// bytesOf are the bytes of the records of events.
func bytesOf(t *testing.T, l []story.Event) []byte {
	t.Helper()
	var records []api.Record
	for _, e := range l {
		records = append(records, e.Record)
	}
	return joined(t, records...)
}

// told is all that can be asked of a table.
type told struct {
	jobs [api.MaxJobs]api.Job
	now  int
}

func tell(x *jobs.Table) told {
	s := told{now: x.Now()}
	for n := range s.jobs {
		s.jobs[n] = x.Job(n)
	}
	return s
}

// after is a table that was given the orders of these records.
func after(records []api.Record) *jobs.Table {
	x := jobs.New()
	for _, r := range records {
		x.Do(r.Order)
	}
	return x
}

// wantOf hands the bytes in with others behind their length, which are neither
// to be read nor written.
func wantOf(t *testing.T, b []byte, want ...story.Event) {
	t.Helper()
	roomy := append(slices.Clone(b), joined(t, api.Record{Epoch: api.MaxEpoch, Order: add(0)})...)
	ahead := slices.Clone(roomy)
	got := story.Of(roomy[:len(b)])
	if len(got) != len(want) {
		t.Fatalf("Of(%v) has %d events, want %d:\n%+v", b, len(got), len(want), got)
	}
	for i := range want {
		if got[i] != want[i] {
			t.Fatalf("Of(%v): the event %d is\n%+v, want\n%+v", b, i, got[i], want[i])
		}
	}
	if !slices.Equal(roomy, ahead) {
		t.Fatalf("Of changed what it was handed: %v became %v", ahead, roomy)
	}
}

func wantTable(t *testing.T, b []byte, n int, want told) {
	t.Helper()
	ahead := slices.Clone(b)
	got := story.Table(b, n)
	if got == nil {
		t.Fatalf("Table(%v, %d) is nil, want %+v", b, n, want)
	}
	if tell(got) != want {
		t.Fatalf("Table(%v, %d) is\n%+v, want\n%+v", b, n, tell(got), want)
	}
	if !slices.Equal(b, ahead) {
		t.Fatalf("Table changed what it was handed: %v became %v", ahead, b)
	}
}

func wantNoTable(t *testing.T, b []byte, n int) {
	t.Helper()
	if got := story.Table(b, n); got != nil {
		t.Fatalf("Table(%v, %d) is %+v, want nil", b, n, tell(got))
	}
}

// wantHolders hands the events in with one more behind their length.
func wantHolders(t *testing.T, l []story.Event, job int, want ...[2]int) {
	t.Helper()
	roomy := append(slices.Clone(l), event(1, take(3, 1), api.Answer{Job: job, Try: 3}, api.Job{}))
	ahead := slices.Clone(roomy)
	if got := story.Holders(roomy[:len(l)], job); !slices.Equal(got, want) {
		t.Fatalf("Holders(%+v, %d) = %v, want %v", l, job, got, want)
	}
	if !slices.Equal(roomy, ahead) {
		t.Fatalf("Holders changed what it was handed: %+v became %+v", ahead, roomy)
	}
}
