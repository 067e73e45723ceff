package story_test

import (
	"testing"

	"vergers/api"
	"vergers/codec"
	"vergers/guild"
	"vergers/jobs"
	"vergers/story"
)

// dice answers numbers that look thrown, the same ones of each seed.
type dice uint64

func (d *dice) throw(n int) int {
	*d = *d*6364136223846793005 + 1442695040888963407
	return int(uint64(*d)>>33) % n
}

// throwOrder makes orders that have no code of Check, and are often those of
// who holds the job.
func throwOrder(d *dice, now int, x *jobs.Table) api.Order {
	job, try := d.throw(api.MaxJobs), 1+d.throw(api.MaxTries)
	worker, term := d.throw(api.Workers), 1+d.throw(api.MaxTerm)
	if j := x.Job(job); j.State == api.Held && d.throw(4) > 0 {
		try, worker = j.Try, j.Worker
	}
	switch d.throw(7) {
	case 0:
		return at(now, add(job))
	case 1, 2, 3:
		return at(now, take(worker, term))
	case 4:
		return at(now, renew(job, try, worker, term))
	case 5:
		return at(now, done(job, try, worker))
	}
	return at(now, drop(job, try, worker))
}

// throwRecords makes records whose epochs never fall, and whose times do at
// times.
func throwRecords(d *dice) []api.Record {
	var all []api.Record
	x := jobs.New()
	epoch := 1
	for range d.throw(60) {
		if d.throw(5) == 0 && epoch < api.MaxEpoch {
			epoch++
		}
		o := throwOrder(d, max(x.Now()+d.throw(12)-3, 0), x)
		x.Do(o)
		all = append(all, api.Record{Epoch: epoch, Order: o})
	}
	return all
}

// plain tells records by asking a new table for each of them, which was given
// those ahead.
func plain(records []api.Record) []story.Event {
	var all []story.Event
	for i, r := range records {
		x := after(records[:i])
		e := story.Event{Record: r, Answer: x.Do(r.Order)}
		job := r.Order.Job
		if r.Order.Kind == api.OTake {
			job = e.Answer.Job
		}
		if e.Answer.Code == 0 {
			e.Job = x.Job(job)
		}
		all = append(all, e)
	}
	return all
}

// wantTold holds all that story tells of bytes against those records.
func wantTold(t *testing.T, b []byte, records []api.Record) {
	t.Helper()
	events := plain(records)
	wantOf(t, b, events...)
	for n := range len(records) + 1 {
		wantTable(t, b, n, tell(after(records[:n])))
	}
	wantNoTable(t, b, len(records)+1)
	var holders [api.MaxJobs][][2]int
	for _, e := range events {
		if e.Record.Order.Kind == api.OTake && e.Job.State == api.Held {
			holders[e.Answer.Job] = append(holders[e.Answer.Job], [2]int{e.Job.Worker, e.Job.Try})
		}
	}
	for job, want := range holders {
		wantHolders(t, story.Of(b), job, want...)
		for i, pair := range want {
			if pair[1] != i+1 {
				t.Fatalf("the job %d was given by tries %v", job, want)
			}
		}
	}
}

func TestThrownRecords(t *testing.T) {
	for seed := range 400 {
		d := dice(seed)
		records := throwRecords(&d)
		b := joined(t, records...)
		wantTold(t, b, records)
		if len(records) > 0 {
			n := d.throw(len(b))
			b[n] ^= byte(1 + d.throw(255))
			wantTold(t, b, codec.All(b))
		}
	}
}

func TestThrownBytes(t *testing.T) {
	for seed := range 400 {
		d := dice(seed)
		b := make([]byte, d.throw(200))
		for i := range b {
			b[i] = byte(d.throw([]int{2, 4, 256}[d.throw(3)]))
		}
		wantTold(t, b, codec.All(b))
		for _, n := range far {
			wantNoTable(t, b, n)
		}
	}
}

func throwStep(d *dice, served int, x *jobs.Table) api.Step {
	step := api.Step{Kind: api.SOrder, N: served, Keep: d.throw(12), Order: throwOrder(d, 0, x)}
	switch d.throw(12) {
	case 0:
		step.Kind, step.N = api.SOpen, d.throw(api.Nodes)
	case 1:
		step.Kind = api.STear
	case 2:
		step.Kind = api.SDown
	case 3, 4, 5:
		step.Kind, step.N = api.STick, d.throw(8)
	case 6:
		step.N = d.throw(api.Nodes)
	}
	return step
}

// What the orders of a guild's steps were answered without a code is what the
// story of its disk tells of them, but that a torn order may be there, too.
func TestThrownGuilds(t *testing.T) {
	for seed := range 100 {
		d := dice(seed)
		g := guild.New()
		g.Step(api.Step{Kind: api.SOpen})
		served := 0
		var answers []api.Answer
		for range 120 {
			x := throwStep(&d, served, story.Table(g.Bytes(), len(answers)))
			a := g.Step(x)
			if x.Kind == api.SOpen {
				served = x.N
			}
			if a.Code == 0 && (x.Kind == api.SOrder || x.Kind == api.STear && x.Keep >= codec.Size) {
				answers = append(answers, a)
			}
			wantAnswers(t, story.Of(g.Bytes()), answers)
		}
		wantTold(t, g.Bytes(), codec.All(g.Bytes()))
	}
}

// wantAnswers asks for less of an OTake that was torn: nobody was told which
// job it had.
func wantAnswers(t *testing.T, l []story.Event, want []api.Answer) {
	t.Helper()
	if len(l) != len(want) {
		t.Fatalf("%d events, want %d", len(l), len(want))
	}
	for i, a := range want {
		if got := l[i].Answer; got != a && (a != api.Answer{} || got.Code != 0) {
			t.Fatalf("the event %d is answered %+v, want %+v", i, got, a)
		}
	}
}
