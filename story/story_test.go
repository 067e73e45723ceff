package story_test

import (
	"slices"
	"testing"

	"vergers/api"
	"vergers/codec"
	"vergers/guild"
	"vergers/story"
)

// tale has orders of every kind, of several epochs; some are refused, by each
// code that a table has for a record that codec.All tells.
func tale() []story.Event {
	return []story.Event{
		refused(1, at(9, take(0, 5)), api.ErrNone),
		refused(1, at(9, done(4, 1, 0)), api.ErrNone),
		became(1, add(4), waiting(0)),
		became(1, at(1, add(2)), waiting(0)),
		refused(1, at(9, add(4)), api.ErrThere),
		gave(1, at(1, take(3, 4)), 2, held(3, 1, 5)),
		gave(2, at(2, take(1, 20)), 4, held(1, 1, 22)),
		refused(2, at(4, take(0, 5)), api.ErrNone),
		became(2, at(4, renew(2, 1, 3, 6)), held(3, 1, 10)),
		refused(2, at(10, renew(2, 1, 3, 6)), api.ErrOther),
		refused(2, at(9, done(2, 2, 3)), api.ErrOther),
		became(5, at(9, drop(2, 1, 3)), waiting(1)),
		refused(5, at(9, drop(2, 1, 3)), api.ErrOther),
		gave(5, at(9, take(0, 2)), 2, held(0, 2, 11)),
		gave(9, at(11, take(3, 1)), 2, held(3, 3, 12)),
		became(9, at(12, done(4, 1, 1)), finished(1, 1)),
		refused(9, at(12, done(2, 3, 3)), api.ErrOther),
		became(100, at(13, add(0)), waiting(0)),
		refused(100, at(60, add(2)), api.ErrThere),
		gave(100, at(3, take(2, 20)), 0, held(2, 1, 33)),
	}
}

// ends is how the table is behind the tale.
func ends() told {
	s := told{now: 13}
	s.jobs[0] = held(2, 1, 33)
	s.jobs[2] = lost
	s.jobs[4] = finished(1, 1)
	return s
}

func TestOfTellsEachRecord(t *testing.T) {
	wantOf(t, bytesOf(t, tale()), tale()...)
}

func TestOfNothing(t *testing.T) {
	if got := story.Of(nil); len(got) != 0 {
		t.Errorf("Of(nil) = %+v", got)
	}
	wantOf(t, nil)
	wantOf(t, []byte{})
}

func TestOfBytesThatAreNoRecord(t *testing.T) {
	for _, b := range [][]byte{{0}, {1, 2}, make([]byte, codec.Size), make([]byte, 100), []byte("a text that has no record in it, though it is long")} {
		wantOf(t, b)
		wantOf(t, slices.Concat(b, bytesOf(t, tale())))
	}
}

func TestOfEachBeginning(t *testing.T) {
	all := tale()
	b := bytesOf(t, all)
	for n := range len(b) + 1 {
		wantOf(t, b[:n], all[:n/codec.Size]...)
	}
}

func TestOfWithOneByteTurned(t *testing.T) {
	all := tale()
	for i := range len(all) * codec.Size {
		b := bytesOf(t, all)
		b[i] ^= 1
		wantOf(t, b, all[:i/codec.Size]...)
	}
}

func TestOfEndsWhereAnEpochFalls(t *testing.T) {
	wantOf(t, joined(t, api.Record{Epoch: 2, Order: add(0)}, api.Record{Epoch: 1, Order: add(1)}, api.Record{Epoch: 2, Order: add(2)}),
		became(2, add(0), waiting(0)))
	wantOf(t, joined(t, api.Record{Epoch: 1, Order: add(0)}, api.Record{Epoch: 100, Order: add(1)}, api.Record{Epoch: 99, Order: add(2)}),
		became(1, add(0), waiting(0)), became(100, add(1), waiting(0)))
	all := tale()
	b := bytesOf(t, all)
	wantOf(t, slices.Concat(b, b), all...)
}

func TestOfWithSomethingElseBetweenTwoRecords(t *testing.T) {
	all := tale()
	for n := range len(all) + 1 {
		head, tail := bytesOf(t, all[:n]), bytesOf(t, all[n:])
		for _, between := range [][]byte{{0}, {1, 1, 0, 0, 0, 0, 0, 0}, make([]byte, codec.Size)} {
			wantOf(t, slices.Concat(head, between, tail), all[:n]...)
		}
	}
}

// Such orders are in no record: their bytes end what codec.All reads, though
// the sum is right.
func TestOfEndsWhereAnOrderHasChecksCode(t *testing.T) {
	for _, head := range [][]byte{{1, 0, 0, 0, 0, 0, 0, 0}, {1, 6, 0, 0, 0, 0, 0, 0}, {1, 1, 0, 0, 0, 1, 0, 0}, {1, 1, 0, 0, api.MaxJobs, 0, 0, 0}, {1, 2, 0, 0, 0, 0, 0, 0}, {0, 1, 0, 0, 0, 0, 0, 0}} {
		sum := 1
		for i, x := range head {
			sum += int(x) * (i + 1)
		}
		b := joined(t, api.Record{Epoch: 1, Order: add(3)})
		tail := joined(t, api.Record{Epoch: 1, Order: add(4)})
		wantOf(t, slices.Concat(b, head, []byte{byte(sum % 251)}, tail), became(1, add(3), waiting(0)))
	}
}

// Job 0 is there and not zero, so that a table that is asked for the order's
// own job, which is 0 of OTake, would tell that one.
func TestOfTakeTheJobIsThatOfTheAnswer(t *testing.T) {
	all := []story.Event{
		became(1, add(0), waiting(0)),
		gave(1, take(2, 20), 0, held(2, 1, 20)),
		became(1, add(5), waiting(0)),
		became(1, add(3), waiting(0)),
		gave(1, at(4, take(1, 7)), 3, held(1, 1, 11)),
		gave(2, at(5, take(1, 1)), 5, held(1, 1, 6)),
		gave(2, at(6, take(3, 9)), 5, held(3, 2, 15)),
		refused(2, at(7, take(3, 9)), api.ErrNone),
	}
	wantOf(t, bytesOf(t, all), all...)
}

// The job of each of these orders is there, and not zero.
func TestOfARefusedOrderTheJobIsZero(t *testing.T) {
	head := []story.Event{became(1, add(0), waiting(0)), gave(1, take(2, 20), 0, held(2, 1, 20))}
	for _, last := range []story.Event{
		refused(1, add(0), api.ErrThere),
		refused(1, take(1, 5), api.ErrNone),
		refused(1, renew(0, 1, 1, 5), api.ErrOther),
		refused(1, done(0, 2, 2), api.ErrOther),
		refused(1, drop(0, 1, 3), api.ErrOther),
		refused(1, renew(1, 1, 2, 5), api.ErrNone),
		refused(1, done(1, 1, 2), api.ErrNone),
		refused(1, drop(5, 1, 2), api.ErrNone),
	} {
		all := append(slices.Clone(head), last, became(1, done(0, 1, 2), finished(2, 1)))
		wantOf(t, bytesOf(t, all), all...)
	}
}

func TestOfARefusedOrderTheTimeStays(t *testing.T) {
	all := []story.Event{
		became(1, add(1), waiting(0)),
		gave(1, take(2, 5), 1, held(2, 1, 5)),
		refused(1, at(api.MaxTime, add(1)), api.ErrThere),
		refused(1, at(api.MaxTime, done(1, 1, 2)), api.ErrOther),
		refused(1, at(api.MaxTime, drop(0, 1, 2)), api.ErrNone),
		became(1, at(4, renew(1, 1, 2, 5)), held(2, 1, 9)),
	}
	wantOf(t, bytesOf(t, all), all...)
}

func TestOfAJobThatIsLost(t *testing.T) {
	tries := []story.Event{
		became(1, add(1), waiting(0)),
		gave(1, take(0, 5), 1, held(0, 1, 5)),
		gave(1, at(5, take(1, 5)), 1, held(1, 2, 10)),
		gave(1, at(10, take(2, 5)), 1, held(2, 3, 15)),
	}
	dropped := append(slices.Clone(tries), became(1, at(11, drop(1, 3, 2)), lost), refused(1, at(11, take(0, 1)), api.ErrNone))
	wantOf(t, bytesOf(t, dropped), dropped...)
	late := append(slices.Clone(tries), refused(1, at(15, take(3, 5)), api.ErrNone), became(1, at(14, done(1, 3, 2)), finished(2, 3)))
	wantOf(t, bytesOf(t, late), late...)
}

func TestOfTheEdges(t *testing.T) {
	all := []story.Event{
		became(1, at(api.MaxTime, add(api.MaxJobs-1)), waiting(0)),
		gave(api.MaxEpoch, take(api.Workers-1, api.MaxTerm), api.MaxJobs-1, held(api.Workers-1, 1, api.MaxTime+api.MaxTerm)),
		became(api.MaxEpoch, renew(api.MaxJobs-1, 1, api.Workers-1, 1), held(api.Workers-1, 1, api.MaxTime+1)),
		became(api.MaxEpoch, done(api.MaxJobs-1, 1, api.Workers-1), finished(api.Workers-1, 1)),
	}
	wantOf(t, bytesOf(t, all), all...)
}

// Two stories share no table.
func TestOfIsToldTheSameAgain(t *testing.T) {
	b := bytesOf(t, tale())
	for range 3 {
		wantOf(t, b, tale()...)
		story.Table(b, 7).Do(add(5))
		story.Of(joined(t, api.Record{Epoch: 1, Order: add(5)}))
	}
}

func TestOfAGuildsDisk(t *testing.T) {
	g := guild.New()
	opened := func(n int) api.Step { return api.Step{Kind: api.SOpen, N: n} }
	order := func(n int, o api.Order) api.Step { return api.Step{Kind: api.SOrder, N: n, Order: o} }
	tick := func(n int) api.Step { return api.Step{Kind: api.STick, N: n} }
	for _, x := range []api.Step{
		opened(0), order(0, add(3)), tick(2), order(0, take(1, 5)), order(0, add(3)),
		opened(1), order(0, add(0)), order(1, renew(3, 1, 1, 6)), tick(6), order(1, take(2, 9)),
		{Kind: api.STear, N: 1, Keep: codec.Size, Order: drop(3, 2, 2)}, order(1, add(0)),
		opened(2), order(2, take(0, 4)), {Kind: api.SDown, N: 2}, opened(2), tick(1), order(2, done(3, 3, 0)),
	} {
		g.Step(x)
	}
	all := []story.Event{
		became(1, add(3), waiting(0)),
		gave(1, at(2, take(1, 5)), 3, held(1, 1, 7)),
		became(2, at(2, renew(3, 1, 1, 6)), held(1, 1, 8)),
		gave(2, at(8, take(2, 9)), 3, held(2, 2, 17)),
		became(2, at(8, drop(3, 2, 2)), waiting(2)),
		gave(3, at(8, take(0, 4)), 3, held(0, 3, 12)),
		became(4, at(9, done(3, 3, 0)), finished(0, 3)),
	}
	wantOf(t, g.Bytes(), all...)
	for keep := range codec.Size {
		if a := g.Step(api.Step{Kind: api.STear, N: 2, Keep: keep, Order: add(0)}); a.Code != 0 {
			t.Fatalf("the step has the code %d", a.Code)
		}
		wantOf(t, g.Bytes(), all...)
		g.Step(opened(2))
	}
	wantHolders(t, story.Of(g.Bytes()), 3, [2]int{1, 1}, [2]int{2, 2}, [2]int{0, 3})
	if got, want := tell(story.Table(g.Bytes(), len(all))), tell(g.Node(2).Table); got != want {
		t.Errorf("the table behind all is %+v, the node's is %+v", got, want)
	}
}

func TestOfMany(t *testing.T) {
	var records []api.Record
	for i := range 20000 {
		records = append(records, api.Record{Epoch: 1 + i/200, Order: at(i, take(i%api.Workers, 1+i%api.MaxTerm))})
	}
	records[0].Order = add(1)
	got := story.Of(joined(t, records...))
	if len(got) != len(records) || len(story.Holders(got, 1)) != api.MaxTries {
		t.Fatalf("%d events, %d holders", len(got), len(story.Holders(got, 1)))
	}
	for i, e := range got {
		if e.Record != records[i] {
			t.Fatalf("the event %d is of %+v, want %+v", i, e.Record, records[i])
		}
	}
}

func TestTheAnswersOfOfAreNewMemory(t *testing.T) {
	b := bytesOf(t, tale())
	first, second := story.Of(b), story.Of(b)
	first = first[:cap(first)]
	for i := range first {
		first[i] = story.Event{Answer: api.Answer{Code: 77}}
	}
	clear(b)
	if !slices.Equal(second, tale()) {
		t.Errorf("another answer or the bytes were written to, and the answer became %+v", second)
	}
}
