package story_test

import (
	"slices"
	"testing"

	"vergers/api"
	"vergers/story"
)

func TestHoldersOfTheTale(t *testing.T) {
	l := story.Of(bytesOf(t, tale()))
	wantHolders(t, l, 2, [2]int{3, 1}, [2]int{0, 2}, [2]int{3, 3})
	wantHolders(t, l, 4, [2]int{1, 1})
	wantHolders(t, l, 0, [2]int{2, 1})
	for _, job := range []int{1, 3, 5} {
		wantHolders(t, l, job)
	}
}

func TestHoldersOfNoEvent(t *testing.T) {
	for _, job := range append([]int{0, 1, api.MaxJobs - 1, api.MaxJobs}, far...) {
		wantHolders(t, nil, job)
		wantHolders(t, []story.Event{}, job)
		wantHolders(t, story.Of(nil), job)
		if got := story.Holders(nil, job); len(got) != 0 {
			t.Errorf("Holders(nil, %d) = %v", job, got)
		}
	}
}

func TestHoldersOfAJobThatIsNot(t *testing.T) {
	l := story.Of(bytesOf(t, tale()))
	for _, job := range append([]int{api.MaxJobs, api.MaxJobs + 1}, far...) {
		wantHolders(t, l, job)
	}
}

// An OTake with a code says Job 0, as does an order of another kind.
func TestHoldersPassesOverWhatGaveNoJob(t *testing.T) {
	all := []story.Event{
		refused(1, take(3, 5), api.ErrNone),
		became(1, add(0), waiting(0)),
		gave(1, take(2, 5), 0, held(2, 1, 5)),
		refused(1, take(1, 5), api.ErrNone),
		refused(1, add(0), api.ErrThere),
		became(1, renew(0, 1, 2, 9), held(2, 1, 9)),
		refused(1, done(0, 1, 3), api.ErrOther),
		became(1, drop(0, 1, 2), waiting(1)),
		gave(1, take(2, 5), 0, held(2, 2, 5)),
		became(1, done(0, 2, 2), finished(2, 2)),
	}
	wantOf(t, bytesOf(t, all), all...)
	wantHolders(t, all, 0, [2]int{2, 1}, [2]int{2, 2})
	for job := 1; job < api.MaxJobs; job++ {
		wantHolders(t, all, job)
	}
}

func TestHoldersPassesOverAnotherJob(t *testing.T) {
	all := []story.Event{
		became(1, add(1), waiting(0)),
		became(1, add(4), waiting(0)),
		gave(1, take(2, 5), 1, held(2, 1, 5)),
		gave(1, take(0, 9), 4, held(0, 1, 9)),
		gave(2, at(5, take(3, 5)), 1, held(3, 2, 10)),
	}
	wantOf(t, bytesOf(t, all), all...)
	wantHolders(t, all, 1, [2]int{2, 1}, [2]int{3, 2})
	wantHolders(t, all, 4, [2]int{0, 1})
	wantHolders(t, all, 2)
	wantHolders(t, all, 3)
	wantHolders(t, all, 0)
}

// A job that was taken and lost had its holders all the same.
func TestHoldersOfAJobThatIsLostOrNeverTaken(t *testing.T) {
	all := []story.Event{
		became(1, add(5), waiting(0)),
		gave(1, take(0, 1), 5, held(0, 1, 1)),
		gave(1, at(1, take(0, 1)), 5, held(0, 2, 2)),
		gave(1, at(2, take(1, 1)), 5, held(1, 3, 3)),
		became(1, at(3, add(2)), waiting(0)),
	}
	wantOf(t, bytesOf(t, all), all...)
	wantHolders(t, all, 5, [2]int{0, 1}, [2]int{0, 2}, [2]int{1, 3})
	wantHolders(t, all, 2)
}

// No bytes tell these events; each OTake that is answered with the job,
// without a code, is told as it stands there.
func TestHoldersOfEventsThatNoBytesTell(t *testing.T) {
	numbers := append([]int{0, 1, 2, 3, 6}, far...)
	for _, n := range numbers {
		odd := event(n, api.Order{Kind: api.OTake, Now: n, Job: n, Try: n, Worker: n, Term: n}, api.Answer{Job: 2, Try: n}, api.Job{State: n, Worker: 9, Try: 9, Until: n})
		wantHolders(t, []story.Event{odd}, 2, [2]int{n, n})
		wantHolders(t, []story.Event{odd, odd}, 2, [2]int{n, n}, [2]int{n, n})
		wantHolders(t, []story.Event{odd}, 3)
		named := event(1, take(3, 5), api.Answer{Job: n, Try: 7}, api.Job{})
		for _, job := range numbers {
			if job == n {
				wantHolders(t, []story.Event{named}, job, [2]int{3, 7})
			} else {
				wantHolders(t, []story.Event{named}, job)
			}
		}
	}
}

// No table gives a job more often than MaxTries: events may say so.
func TestHoldersOfMoreThanThereAreTries(t *testing.T) {
	var l []story.Event
	var want [][2]int
	for i := range 1000 {
		l = append(l, event(1, take(i, 5), api.Answer{Job: 2, Try: 1000 - i}, api.Job{}))
		want = append(want, [2]int{i, 1000 - i})
	}
	wantHolders(t, l, 2, want...)
	wantHolders(t, l, 0)
}

func TestHoldersPassesOverEveryCodeAndKind(t *testing.T) {
	right := event(1, take(1, 5), api.Answer{Job: 2, Try: 1}, held(1, 1, 5))
	for _, n := range append([]int{0, 1, 2, 3, 4, 5, 6, 7, 8, 9, 10, 11, 12, 13, 14}, far...) {
		coded, kind := right, right
		coded.Answer.Code = n
		kind.Record.Order.Kind = n
		if n != 0 {
			wantHolders(t, []story.Event{coded, right}, 2, [2]int{1, 1})
		}
		if n != api.OTake {
			wantHolders(t, []story.Event{right, kind}, 2, [2]int{1, 1})
		}
	}
	wantHolders(t, []story.Event{{}, {}, right, {}}, 2, [2]int{1, 1})
	wantHolders(t, []story.Event{{}, {}}, 0)
}

// The worker is the order's and the try the answer's, not those of how the job
// was then, nor the order's job and try.
func TestHoldersLooksAtOrderAndAnswer(t *testing.T) {
	o := take(1, 5)
	o.Job, o.Try = 4, 3
	l := []story.Event{event(1, o, api.Answer{Job: 2, Try: 1}, held(3, 2, 9))}
	wantHolders(t, l, 2, [2]int{1, 1})
	wantHolders(t, l, 4)
}

func TestTheAnswersOfHoldersAreNewMemory(t *testing.T) {
	l := story.Of(bytesOf(t, tale()))
	want := [][2]int{{3, 1}, {0, 2}, {3, 3}}
	first, second := story.Holders(l, 2), story.Holders(l, 2)
	first = first[:cap(first)]
	for i := range first {
		first[i] = [2]int{77, 77}
	}
	clear(l)
	if !slices.Equal(second, want) {
		t.Errorf("another answer or the events were written to, and the answer became %v", second)
	}
}
