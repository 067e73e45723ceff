package node_test

import (
	"bytes"
	"slices"
	"testing"

	"vergers/api"
	"vergers/codec"
	"vergers/disk"
	"vergers/jobs"
	"vergers/node"
)

// someOrders are all done by a new table, and leave one job in each state but
// Lost, at the time 7.
func someOrders() []api.Order {
	return []api.Order{add(0, 1), add(1, 2), add(1, 4), take(2, 3, 20), take(2, 1, 4), renew(5, 2, 1, 1, 9), drop(6, 2, 1, 1), done(7, 1, 1, 3), take(7, 2, 5)}
}

func TestOpenOfANewDisk(t *testing.T) {
	d := disk.New()
	n := open(t, d)
	if n.Epoch() != 1 {
		t.Errorf("the first node is of %d", n.Epoch())
	}
	wantTable(t, n, told{})
	wantBytes(t, d, nil)
	wantAnswer(t, n, add(3, 0), api.Answer{})
	wantBytes(t, d, record(t, 1, add(3, 0)))
}

func TestOpenOfNil(t *testing.T) {
	n, code := node.Open(nil)
	if n != nil || code != api.ErrNone {
		t.Errorf("Open(nil) = %v, %d", n, code)
	}
}

func TestANodeIsATable(t *testing.T) {
	n, _ := serving(t, add(4, 2))
	var table *jobs.Table = n.Table
	if table.Job(2) != n.Job(2) || table.Now() != 4 || n.Now() != 4 {
		t.Errorf("the table has %+v at %d, the node %+v at %d", table.Job(2), table.Now(), n.Job(2), n.Now())
	}
	for _, job := range append([]int{api.MaxJobs}, far...) {
		if n.Job(job) != (api.Job{}) {
			t.Errorf("Job(%d) = %+v", job, n.Job(job))
		}
	}
}

func TestOpenOfWholeRecordsAlone(t *testing.T) {
	all := someOrders()
	for n := range len(all) + 1 {
		b := records(t, 1, all[:n]...)
		d := diskOf(t, 1, b)
		x := open(t, d)
		wantTable(t, x, after(all[:n]...))
		wantBytes(t, d, b)
	}
	x := open(t, diskOf(t, 1, records(t, 1, all...)))
	want := told{now: 7}
	want.jobs[1] = api.Job{State: api.Done, Worker: 3, Try: 1}
	want.jobs[2] = api.Job{State: api.Held, Worker: 2, Try: 2, Until: 12}
	want.jobs[4] = api.Job{State: api.Waiting}
	wantTable(t, x, want)
}

func TestOpenCutsTheBeginningOfARecord(t *testing.T) {
	all := someOrders()
	for whole := range len(all) {
		b := records(t, 1, all[:whole]...)
		for part := 1; part < codec.Size; part++ {
			d := diskOf(t, 1, b, record(t, 1, all[whole])[:part])
			x := open(t, d)
			wantTable(t, x, after(all[:whole]...))
			wantBytes(t, d, b)
			orderAll(t, x, all[whole])
			wantBytes(t, d, slices.Concat(b, record(t, 2, all[whole])))
			wantTable(t, open(t, d), after(all[:whole+1]...))
		}
	}
}

func TestOpenCutsBytesThatAreNoRecord(t *testing.T) {
	whole := records(t, 1, someOrders()...)
	for _, b := range [][]byte{
		{0}, []byte("abc"), make([]byte, codec.Size), bytes.Repeat([]byte{255}, codec.Size), make([]byte, 1000),
		{1, 1, 0, 9, 0, 0, 0, 0, 41}, {0, 1, 0, 9, 0, 0, 0, 0, 39}, {1, 9, 0, 0, 0, 0, 0, 0, 20}, {1, 1, 0, 0, 6, 0, 0, 0, 34},
	} {
		for _, behind := range [][]byte{nil, whole, record(t, 1, add(50, 5))} {
			d := diskOf(t, 1, b, behind)
			wantTable(t, open(t, d), told{})
			wantBytes(t, d, nil)
			d = diskOf(t, 1, whole, b, behind)
			wantTable(t, open(t, d), after(someOrders()...))
			wantBytes(t, d, whole)
		}
	}
}

func TestOpenCutsFromAnEpochThatFalls(t *testing.T) {
	for _, x := range []struct {
		epochs []int
		stay   int
	}{
		{[]int{2, 1}, 1}, {[]int{2, 1, 2}, 1}, {[]int{1, 3, 2, 3}, 2}, {[]int{4, 4, 3}, 2}, {[]int{1, 2, 3, 4, 1}, 4}, {[]int{4, 1, 1, 1}, 1}, {[]int{1, 1, 2, 4}, 4},
	} {
		wantStay(t, 4, x.epochs, x.stay)
	}
}

// wantStay opens a disk of an epoch, with a record of each of epochs, of
// which the first stay stay.
func wantStay(t *testing.T, epoch int, epochs []int, stay int) {
	t.Helper()
	var b []byte
	var orders []api.Order
	for i, e := range epochs {
		orders = append(orders, add(i+1, i))
		b = append(b, record(t, e, orders[i])...)
	}
	d := diskOf(t, epoch, b)
	n := open(t, d)
	wantTable(t, n, after(orders[:stay]...))
	wantBytes(t, d, b[:stay*codec.Size])
	if n.Now() != stay {
		t.Fatalf("of %v the time is %d, want %d", epochs, n.Now(), stay)
	}
}

func TestOpenCutsFromAnEpochAboveTheDisks(t *testing.T) {
	for _, x := range []struct {
		epoch  int
		epochs []int
		stay   int
	}{
		{1, []int{1}, 1}, {1, []int{2}, 0}, {1, []int{3}, 0}, {1, []int{1, 2}, 1}, {1, []int{1, 1, 2, 2, 2}, 2}, {1, []int{1, 100}, 1},
		{3, []int{1, 2, 3}, 3}, {3, []int{1, 3, 4, 5}, 2}, {3, []int{1, 3, 4, 3}, 2}, {3, []int{4, 3}, 0}, {3, []int{2, 5, 5}, 1},
		{99, []int{1, 99, 100}, 2}, {99, []int{100}, 0}, {50, []int{49, 50, 51}, 2}, {50, []int{50, 100, 100}, 1},
	} {
		wantStay(t, x.epoch, x.epochs, x.stay)
	}
}

func TestOpenAsTheLastEpoch(t *testing.T) {
	d := diskOf(t, api.MaxEpoch-1, records(t, api.MaxEpoch-1, add(1, 1)))
	n := open(t, d)
	wantTable(t, n, after(add(1, 1)))
	wantAnswer(t, n, take(2, 1, 3), api.Answer{Job: 1, Try: 1})
	wantBytes(t, d, slices.Concat(record(t, 99, add(1, 1)), record(t, 100, take(2, 1, 3))))
}

func TestOpenBehindTheLastEpoch(t *testing.T) {
	for _, b := range [][]byte{nil, records(t, 1, someOrders()...), []byte("none of it is cut"), record(t, 1, add(0, 0))[:8], make([]byte, api.MaxBytes-codec.Size)} {
		d := diskOf(t, api.MaxEpoch-1)
		last := open(t, d)
		orderAll(t, last, add(2, 3))
		appendTo(t, d, b)
		ahead := look(last, d)
		for range 3 {
			n, code := node.Open(d)
			if n != nil || code != api.ErrFull {
				t.Fatalf("Open = %v, %d, want ErrFull", n, code)
			}
			if behind := look(last, d); behind != ahead {
				t.Fatalf("Open that was refused: %+v became %+v", ahead, behind)
			}
		}
	}
	d := diskOf(t, api.MaxEpoch-1)
	last := open(t, d)
	node.Open(d)
	wantAnswer(t, last, add(2, 3), api.Answer{})
	wantDown(t, last, false)
}

func TestRecordsThatATableRefusesStayAndDoNothing(t *testing.T) {
	orders := []api.Order{add(1, 2), add(50, 2), take(2, 1, 20), done(60, 2, 1, 3), drop(60, 5, 1, 1), take(9, 0, 5), renew(3, 2, 1, 1, 6), renew(60000, 2, 1, 1, 6)}
	b := records(t, 1, orders...)
	d := diskOf(t, 1, b)
	n := open(t, d)
	wantTable(t, n, after(add(1, 2), take(2, 1, 20), renew(3, 2, 1, 1, 6)))
	wantBytes(t, d, b)
	if n.Now() != 3 || n.Job(2) != (api.Job{State: api.Held, Worker: 1, Try: 1, Until: 9}) {
		t.Errorf("job 2 is %+v at %d", n.Job(2), n.Now())
	}
}

func TestOpenedTwiceInARow(t *testing.T) {
	d := diskOf(t, 2, records(t, 1, add(0, 0)), records(t, 2, add(1, 1)), []byte{3})
	for range 5 {
		n := open(t, d)
		wantTable(t, n, after(add(0, 0), add(1, 1)))
		wantBytes(t, d, slices.Concat(record(t, 1, add(0, 0)), record(t, 2, add(1, 1))))
	}
}

func TestANodesTableIsItsOwn(t *testing.T) {
	first, d := serving(t, add(0, 0), add(0, 1))
	second := open(t, d)
	ahead := tell(first)
	orderAll(t, second, take(5, 1, 5), take(6, 2, 5))
	wantTable(t, first, ahead)
	other, e := serving(t)
	orderAll(t, other, add(9, 5))
	wantTable(t, second, after(add(0, 0), add(0, 1), take(5, 1, 5), take(6, 2, 5)))
	wantBytes(t, e, record(t, 1, add(9, 5)))
}
