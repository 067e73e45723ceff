package node_test

import (
	"slices"
	"testing"

	"vergers/api"
	"vergers/codec"
	"vergers/disk"
	"vergers/jobs"
	"vergers/node"
)

func TestOrdersAreAnsweredAsByATableAndWritten(t *testing.T) {
	n, d := serving(t)
	plain := jobs.New()
	var b []byte
	for _, o := range append(someOrders(), add(12, 0), take(12, 0, 1), take(13, 3, 20), add(2, 3)) {
		want := plain.Do(o)
		if want.Code != 0 {
			t.Fatalf("a table refuses %+v: %+v", o, want)
		}
		wantAnswer(t, n, o, want)
		b = append(b, record(t, 1, o)...)
		wantTable(t, n, tell(plain))
		wantBytes(t, d, b)
		wantDown(t, n, false)
	}
	if n.Epoch() != 1 || d.Epoch() != 1 {
		t.Errorf("the node is of %d, the disk of %d", n.Epoch(), d.Epoch())
	}
}

func TestARecordIsOfTheNodesEpoch(t *testing.T) {
	d := disk.New()
	var b []byte
	for epoch := 1; epoch <= api.MaxEpoch; epoch++ {
		n := open(t, d)
		o := take(epoch, 1, 1)
		if epoch%16 == 1 && epoch/16 < api.MaxJobs {
			o = add(epoch, epoch/16)
		}
		if a := n.Order(o); a.Code == 0 {
			b = append(b, record(t, epoch, o)...)
		}
		wantBytes(t, d, b)
	}
	if all := codec.All(b); len(all) < 20 || all[len(all)-1].Epoch < 80 {
		t.Errorf("too little was written: %+v", all)
	}
}

// refusals are orders that a table behind add(0, 1), add(0, 2), take(1, 2, 5)
// refuses, by each of its codes.
func refusals() []struct {
	order api.Order
	code  int
} {
	return []struct {
		order api.Order
		code  int
	}{
		{api.Order{}, api.ErrKind}, {api.Order{Kind: 6, Now: 9}, api.ErrKind}, {api.Order{Kind: -1, Now: -1}, api.ErrKind},
		{api.Order{Kind: api.OAdd, Now: 9, Job: 3, Term: 1}, api.ErrForm}, {api.Order{Kind: api.OTake, Job: 1, Term: 1}, api.ErrForm},
		{add(-1, 3), api.ErrRange}, {add(api.MaxTime+1, 3), api.ErrRange}, {add(9, api.MaxJobs), api.ErrRange},
		{take(9, api.Workers, 5), api.ErrRange}, {take(9, 0, 0), api.ErrRange}, {take(9, 0, api.MaxTerm+1), api.ErrRange}, {done(2, 1, 0, 2), api.ErrRange},
		{add(9, 1), api.ErrThere}, {add(0, 2), api.ErrThere},
		{done(2, 3, 1, 2), api.ErrNone}, {renew(9, 0, 1, 1, 4), api.ErrNone},
		{done(2, 1, 1, 1), api.ErrOther}, {drop(2, 1, 2, 2), api.ErrOther}, {renew(6, 1, 1, 2, 5), api.ErrOther}, {done(2, 2, 1, 2), api.ErrOther},
	}
}

func TestAnOrderThatTheTableRefuses(t *testing.T) {
	n, d := serving(t, add(0, 1), add(0, 2), take(1, 2, 5))
	for _, x := range refusals() {
		wantRefused(t, n, d, x.order, x.code)
		wantDown(t, n, false)
	}
	wantRefused(t, n, d, api.Order{Kind: api.OTake, Now: 9, Job: -1, Worker: 9, Term: 99}, api.ErrForm)
	wantAnswer(t, n, take(2, 3, 5), api.Answer{Job: 2, Try: 1})
	wantRefused(t, n, d, take(3, 0, 1), api.ErrNone)
	wantAnswer(t, n, done(5, 1, 1, 2), api.Answer{})
	wantTable(t, open(t, d), after(add(0, 1), add(0, 2), take(1, 2, 5), take(2, 3, 5), done(5, 1, 1, 2)))
}

func TestOrdersOfVeryGreatNumbers(t *testing.T) {
	n, d := serving(t, add(0, 1), take(0, 1, 20))
	for _, x := range far {
		wantRefused(t, n, d, api.Order{Kind: x}, api.ErrKind)
		wantRefused(t, n, d, add(x, 2), api.ErrRange)
		wantRefused(t, n, d, add(2, x), api.ErrRange)
		wantRefused(t, n, d, take(2, x, 1), api.ErrRange)
		wantRefused(t, n, d, take(2, 1, x), api.ErrRange)
		wantRefused(t, n, d, renew(2, 1, x, 1, 1), api.ErrRange)
		wantRefused(t, n, d, api.Order{Kind: api.ODone, Job: 1, Try: 1, Worker: 1, Term: x}, api.ErrForm)
		wantRefused(t, n, d, api.Order{Kind: x, Now: x, Job: x, Try: x, Worker: x, Term: x}, api.ErrKind)
	}
}

func TestStop(t *testing.T) {
	n, d := serving(t, add(0, 1), add(0, 2), take(1, 2, 5))
	ahead := look(n, d)
	for range 3 {
		n.Stop()
		wantDown(t, n, true)
		if behind := look(n, d); behind.table != ahead.table || behind.bytes != ahead.bytes || n.Epoch() != 1 || d.Epoch() != 1 {
			t.Fatalf("Stop: %+v became %+v", ahead, behind)
		}
		wantRefused(t, n, d, take(2, 3, 5), api.ErrDown)
		for _, x := range refusals() {
			wantRefused(t, n, d, x.order, api.ErrDown)
		}
	}
	wantTable(t, open(t, d), after(add(0, 1), add(0, 2), take(1, 2, 5)))
	wantDown(t, n, true)
}

func TestStopOfOneNodeIsNoneOfAnother(t *testing.T) {
	first, d := serving(t)
	second := open(t, d)
	first.Stop()
	wantDown(t, second, false)
	wantAnswer(t, second, add(0, 0), api.Answer{})
}

// fencings are ways in which another one serves since.
func fencings() []func(*testing.T, *disk.Disk) {
	return []func(*testing.T, *disk.Disk){
		func(t *testing.T, d *disk.Disk) { open(t, d) },
		func(t *testing.T, d *disk.Disk) { open(t, d).Stop() },
		func(t *testing.T, d *disk.Disk) { d.Raise() },
		func(t *testing.T, d *disk.Disk) { orderAll(t, open(t, d), add(4, 5)); open(t, d) },
	}
}

func TestWhoWasFencedWritesNothingAndIsDown(t *testing.T) {
	orders := []api.Order{add(1, 3), take(2, 3, 5), done(2, 1, 1, 2)}
	for _, x := range refusals() {
		orders = append(orders, x.order)
	}
	for _, fence := range fencings() {
		for _, o := range orders {
			n, d := serving(t, add(0, 1), add(0, 2), take(1, 2, 5))
			table := tell(n)
			fence(t, d)
			b, epoch := d.Bytes(), d.Epoch()
			wantDown(t, n, false)
			wantAnswer(t, n, o, api.Answer{Code: api.ErrFenced})
			wantDown(t, n, true)
			wantRefused(t, n, d, o, api.ErrDown)
			wantTable(t, n, table)
			wantBytes(t, d, b)
			if n.Epoch() != 1 || d.Epoch() != epoch {
				t.Fatalf("the node is of %d, the disk of %d", n.Epoch(), d.Epoch())
			}
		}
	}
}

func TestWhoWasFencedTearsNothingAndIsDown(t *testing.T) {
	for _, fence := range fencings() {
		for _, o := range []api.Order{add(1, 3), take(2, 3, 5), add(1, 1), {}, done(2, 1, 1, 1)} {
			for _, keep := range keeps {
				n, d := serving(t, add(0, 1), add(0, 2), take(1, 2, 5))
				table := tell(n)
				fence(t, d)
				b := d.Bytes()
				wantTear(t, n, o, keep, api.ErrFenced)
				wantDown(t, n, true)
				wantTornRefused(t, n, d, o, keep, api.ErrDown)
				wantTable(t, n, table)
				wantBytes(t, d, b)
			}
		}
	}
}

func TestDownIsToldAheadOfFenced(t *testing.T) {
	n, d := serving(t, add(0, 1))
	n.Stop()
	serves := open(t, d)
	wantRefused(t, n, d, add(0, 2), api.ErrDown)
	wantRefused(t, n, d, api.Order{}, api.ErrDown)
	wantAnswer(t, serves, add(0, 2), api.Answer{})
}

func TestTheOneThatServesIsNotFencedByWhoIs(t *testing.T) {
	first, d := serving(t, add(0, 1))
	second := open(t, d)
	wantAnswer(t, first, add(0, 2), api.Answer{Code: api.ErrFenced})
	wantAnswer(t, second, add(0, 2), api.Answer{})
	wantDown(t, second, false)
	third := open(t, d)
	wantAnswer(t, second, add(0, 3), api.Answer{Code: api.ErrFenced})
	wantTable(t, third, after(add(0, 1), add(0, 2)))
}

func TestTear(t *testing.T) {
	for _, o := range []api.Order{add(3, 3), take(4, 3, 5), renew(5, 1, 1, 2, 20), done(5, 1, 1, 2), drop(5, 1, 1, 2), take(6, 0, 1), add(60000, 0)} {
		for _, keep := range keeps {
			n, d := serving(t, add(0, 1), add(0, 2), take(1, 2, 5))
			table, b := tell(n), d.Bytes()
			came := min(max(keep, 0), codec.Size)
			wantTear(t, n, o, keep, 0)
			wantDown(t, n, true)
			wantTable(t, n, table)
			wantBytes(t, d, slices.Concat(b, record(t, 1, o)[:came]))
			wantRefused(t, n, d, o, api.ErrDown)
			orders := []api.Order{add(0, 1), add(0, 2), take(1, 2, 5)}
			if keep >= codec.Size {
				orders = append(orders, o)
				b = append(b, record(t, 1, o)...)
			}
			wantTable(t, open(t, d), after(orders...))
			wantBytes(t, d, b)
		}
	}
}

func TestATornRecordIsOfTheNodesEpoch(t *testing.T) {
	_, d := serving(t)
	open(t, d)
	wantTear(t, open(t, d), add(2, 1), 9, 0)
	wantBytes(t, d, record(t, 3, add(2, 1)))
}

// filled answers a node whose disk has so many bytes: records, and behind
// them bytes that another one wrote. Job 0 is held as try 1 by worker 0.
func filled(t *testing.T, size int) (*node.Node, *disk.Disk) {
	t.Helper()
	n, d := serving(t, add(0, 0), take(0, 0, 20))
	for range size/codec.Size - 2 {
		orderAll(t, n, renew(0, 0, 1, 0, 20))
	}
	appendTo(t, d, make([]byte, size%codec.Size))
	if len(d.Bytes()) != size {
		t.Fatalf("%d bytes, want %d", len(d.Bytes()), size)
	}
	return n, d
}

func TestOrderWhereThereIsNoRoom(t *testing.T) {
	for room := range codec.Size {
		n, d := filled(t, api.MaxBytes-room)
		ahead := look(n, d)
		for _, o := range []api.Order{add(9, 1), renew(9, 0, 1, 0, 5), done(3, 0, 1, 0), take(20, 1, 1)} {
			wantAnswer(t, n, o, api.Answer{Code: api.ErrFull})
			if behind := look(n, d); behind != ahead {
				t.Fatalf("%+v became %+v", ahead, behind)
			}
		}
		wantRefused(t, n, d, add(9, 0), api.ErrThere)
		wantRefused(t, n, d, api.Order{}, api.ErrKind)
	}
}

func TestOrderWhereThereIsJustRoom(t *testing.T) {
	n, d := filled(t, api.MaxBytes-codec.Size)
	b := d.Bytes()
	wantAnswer(t, n, add(9, 1), api.Answer{})
	wantBytes(t, d, append(b, record(t, 1, add(9, 1))...))
	wantAnswer(t, n, add(9, 2), api.Answer{Code: api.ErrFull})
	wantDown(t, n, false)
}

func TestTearWhereThereIsRoomForAPart(t *testing.T) {
	for room := range codec.Size + 1 {
		for _, keep := range keeps {
			n, d := filled(t, api.MaxBytes-room)
			came := min(max(keep, 0), codec.Size)
			if came > room {
				wantTornRefused(t, n, d, add(9, 1), keep, api.ErrFull)
				wantTornRefused(t, n, d, add(9, 0), keep, api.ErrThere)
				wantDown(t, n, false)
				continue
			}
			table, b := tell(n), d.Bytes()
			wantTear(t, n, add(9, 1), keep, 0)
			wantDown(t, n, true)
			wantTable(t, n, table)
			wantBytes(t, d, append(b, record(t, 1, add(9, 1))[:came]...))
		}
	}
}

func TestDownAndFencedAreToldAheadOfFull(t *testing.T) {
	n, d := filled(t, api.MaxBytes-6)
	d.Raise()
	wantAnswer(t, n, add(9, 1), api.Answer{Code: api.ErrFenced})
	wantRefused(t, n, d, add(9, 1), api.ErrDown)
	n, d = filled(t, api.MaxBytes-6)
	d.Raise()
	wantTear(t, n, add(9, 1), 9, api.ErrFenced)
	n, d = filled(t, api.MaxBytes-6)
	n.Stop()
	wantRefused(t, n, d, add(9, 1), api.ErrDown)
}

func TestAFullDiskOpenedAnew(t *testing.T) {
	n, d := filled(t, api.MaxBytes)
	table := tell(n)
	next := open(t, d)
	wantTable(t, next, table)
	if len(d.Bytes()) != 1494 {
		t.Errorf("%d bytes stay", len(d.Bytes()))
	}
	wantAnswer(t, next, done(3, 0, 1, 0), api.Answer{Code: api.ErrFull})
	wantTear(t, next, done(3, 0, 1, 0), 7, api.ErrFull)
	wantTear(t, next, done(3, 0, 1, 0), 6, 0)
	wantTable(t, open(t, d), table)
}

func TestOthersMayWriteToTheDisk(t *testing.T) {
	n, d := serving(t, add(0, 1))
	appendTo(t, d, record(t, 1, add(5, 2)))
	wantTable(t, n, after(add(0, 1)))
	wantAnswer(t, n, add(6, 3), api.Answer{})
	wantBytes(t, d, records(t, 1, add(0, 1), add(5, 2), add(6, 3)))
	wantTable(t, n, after(add(0, 1), add(6, 3)))
	wantTable(t, open(t, d), after(add(0, 1), add(5, 2), add(6, 3)))
	if code := d.Cut(2, codec.Size); code != 0 {
		t.Fatalf("Cut: code %d", code)
	}
	wantTable(t, open(t, d), after(add(0, 1)))
}
