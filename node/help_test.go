package node_test

import (
	"bytes"
	"fmt"
	"math"
	"slices"
	"testing"

	"vergers/api"
	"vergers/codec"
	"vergers/disk"
	"vergers/jobs"
	"vergers/node"
)

// far are numbers that are in nobody's range, some of them like small ones in
// their last bytes.
var far = []int{math.MinInt64, math.MinInt64 + 1, -1<<32 + 1, -1 << 32, -256, -255, -1, 1<<16 + 1, 1 << 32, 1<<32 + 1, math.MaxInt64 - 1, math.MaxInt64}

// keeps are all ways to tear a record.
var keeps = append([]int{0, 1, 2, 3, 4, 5, 6, 7, 8, 9, 10, 18, api.MaxBytes, api.MaxBytes + 1}, far...)

func add(now, job int) api.Order { return api.Order{Kind: api.OAdd, Now: now, Job: job} }

func take(now, worker, term int) api.Order {
	return api.Order{Kind: api.OTake, Now: now, Worker: worker, Term: term}
}

func renew(now, job, try, worker, term int) api.Order {
	return api.Order{Kind: api.ORenew, Now: now, Job: job, Try: try, Worker: worker, Term: term}
}

func done(now, job, try, worker int) api.Order {
	return api.Order{Kind: api.ODone, Now: now, Job: job, Try: try, Worker: worker}
}

func drop(now, job, try, worker int) api.Order {
	return api.Order{Kind: api.ODrop, Now: now, Job: job, Try: try, Worker: worker}
}

// teller is a table, or a node that is one.
type teller interface {
	Job(int) api.Job
	Now() int
}

// told is all that can be asked of a table.
type told struct {
	jobs [api.MaxJobs]api.Job
	now  int
}

func tell(x teller) told {
	s := told{now: x.Now()}
	for n := range s.jobs {
		s.jobs[n] = x.Job(n)
	}
	return s
}

// state is all that can be seen of a node and its disk.
type state struct {
	table, epochOfNode, epochOfDisk, bytes, down any
}

func look(n *node.Node, d *disk.Disk) state {
	return state{tell(n), n.Epoch(), d.Epoch(), fmt.Sprint(d.Bytes()), n.Down()}
}

// after is what one table tells that was given these orders.
func after(orders ...api.Order) told {
	t := jobs.New()
	for _, o := range orders {
		t.Do(o)
	}
	return tell(t)
}

// record answers the bytes of an order's record, as an epoch's node writes it.
func record(t *testing.T, epoch int, o api.Order) []byte {
	t.Helper()
	b, code := codec.Encode(api.Record{Epoch: epoch, Order: o})
	if code != 0 {
		t.Fatalf("Encode of %d and %+v: code %d", epoch, o, code)
	}
	return b
}

func records(t *testing.T, epoch int, orders ...api.Order) []byte {
	t.Helper()
	var all []byte
	for _, o := range orders {
		all = append(all, record(t, epoch, o)...)
	}
	return all
}

// diskOf answers a disk of an epoch (1 at least) that somebody wrote to.
func diskOf(t *testing.T, epoch int, parts ...[]byte) *disk.Disk {
	t.Helper()
	d := disk.New()
	for d.Epoch() < epoch {
		d.Raise()
	}
	appendTo(t, d, slices.Concat(parts...))
	return d
}

// appendTo is how others write to a disk.
func appendTo(t *testing.T, d *disk.Disk, b []byte) {
	t.Helper()
	if code := d.Append(d.Epoch(), b); code != 0 {
		t.Fatalf("Append of %d bytes: code %d", len(b), code)
	}
}

func open(t *testing.T, d *disk.Disk) *node.Node {
	t.Helper()
	epoch := d.Epoch() + 1
	n, code := node.Open(d)
	if n == nil || code != 0 {
		t.Fatalf("Open = %v, %d", n, code)
	}
	if n.Epoch() != epoch || d.Epoch() != epoch || n.Down() {
		t.Fatalf("opened as %d, want %d; the disk is of %d; down: %v", n.Epoch(), epoch, d.Epoch(), n.Down())
	}
	return n
}

// serving answers a node of a new disk that did these orders.
func serving(t *testing.T, orders ...api.Order) (*node.Node, *disk.Disk) {
	t.Helper()
	d := disk.New()
	n := open(t, d)
	orderAll(t, n, orders...)
	return n, d
}

func orderAll(t *testing.T, n *node.Node, orders ...api.Order) {
	t.Helper()
	for _, o := range orders {
		if a := n.Order(o); a.Code != 0 {
			t.Fatalf("Order(%+v) = %+v", o, a)
		}
	}
}

func wantTable(t *testing.T, n *node.Node, want told) {
	t.Helper()
	if got := tell(n); got != want {
		t.Fatalf("the table is %+v, want %+v", got, want)
	}
}

func wantBytes(t *testing.T, d *disk.Disk, want []byte) {
	t.Helper()
	if got := d.Bytes(); !bytes.Equal(got, want) {
		t.Fatalf("the disk has %v, want %v", got, want)
	}
}

func wantDown(t *testing.T, n *node.Node, want bool) {
	t.Helper()
	if n.Down() != want {
		t.Fatalf("Down is %v, want %v", n.Down(), want)
	}
}

func wantAnswer(t *testing.T, n *node.Node, o api.Order, want api.Answer) {
	t.Helper()
	if got := n.Order(o); got != want {
		t.Fatalf("Order(%+v) = %+v, want %+v", o, got, want)
	}
}

func wantTear(t *testing.T, n *node.Node, o api.Order, keep, want int) {
	t.Helper()
	if got := n.Tear(o, keep); got != want {
		t.Fatalf("Tear(%+v, %d) = %d, want %d", o, keep, got, want)
	}
}

// wantRefused: an order is refused by that code, ordered and torn, and
// nothing is changed.
func wantRefused(t *testing.T, n *node.Node, d *disk.Disk, o api.Order, code int) {
	t.Helper()
	ahead := look(n, d)
	wantAnswer(t, n, o, api.Answer{Code: code})
	if behind := look(n, d); behind != ahead {
		t.Fatalf("Order(%+v): %+v became %+v", o, ahead, behind)
	}
	for _, keep := range keeps {
		wantTornRefused(t, n, d, o, keep, code)
	}
}

func wantTornRefused(t *testing.T, n *node.Node, d *disk.Disk, o api.Order, keep, code int) {
	t.Helper()
	ahead := look(n, d)
	wantTear(t, n, o, keep, code)
	if behind := look(n, d); behind != ahead {
		t.Fatalf("Tear(%+v, %d): %+v became %+v", o, keep, ahead, behind)
	}
}
