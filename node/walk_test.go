package node_test

import (
	"slices"
	"testing"

	"vergers/api"
	"vergers/codec"
	"vergers/disk"
	"vergers/jobs"
	"vergers/node"
)

// dice answers numbers that look thrown, the same ones of each seed.
type dice uint64

func (d *dice) throw(n int) int {
	*d = *d*6364136223846793005 + 1442695040888963407
	return int(uint64(*d)>>33) % n
}

// throwOrder makes orders that mostly have no code of Check, near the time.
func throwOrder(d *dice, now int) api.Order {
	now = min(max(now+d.throw(7)-3, 0), api.MaxTime)
	job, try := d.throw(api.MaxJobs), 1+d.throw(api.MaxTries)
	worker, term := d.throw(api.Workers), 1+d.throw(api.MaxTerm)
	switch d.throw(8) {
	case 0:
		return add(now, job)
	case 1, 2:
		return take(now, worker, term)
	case 3, 4:
		return renew(now, job, try, worker, term)
	case 5:
		return done(now, job, try, worker)
	case 6:
		return drop(now, job, try, worker)
	}
	return api.Order{Kind: d.throw(8), Now: now, Job: d.throw(8) - 1, Try: d.throw(6) - 1, Worker: d.throw(6) - 1, Term: d.throw(23) - 1}
}

// throwFitting makes orders of who holds a job more often than throwOrder.
func throwFitting(d *dice, x teller) api.Order {
	o := throwOrder(d, x.Now())
	if j := x.Job(o.Job); j.State == api.Held && o.Try != 0 {
		o.Try, o.Worker = j.Try, j.Worker
	}
	return o
}

// walk is a disk, the nodes that were opened from it, and the one table that
// is given all orders that were answered without a code or torn behind their
// last byte.
type walk struct {
	disk  *disk.Disk
	nodes []*node.Node
	plain *jobs.Table
	seen  [api.ErrDown + 1]int
	torn  int
}

func (w *walk) open(t *testing.T) {
	t.Helper()
	if w.disk.Epoch() == api.MaxEpoch {
		return
	}
	n := open(t, w.disk)
	w.nodes = append(w.nodes, n)
	wantTable(t, n, tell(w.plain))
	if len(w.disk.Bytes())%codec.Size != 0 {
		t.Fatalf("behind Open %d bytes stay", len(w.disk.Bytes()))
	}
}

// codeOf is what the chapter asks of an order of which came bytes come.
func (w *walk) codeOf(n *node.Node, o api.Order, came int) int {
	switch {
	case n.Down():
		return api.ErrDown
	case n != w.nodes[len(w.nodes)-1]:
		return api.ErrFenced
	}
	if code := w.plain.Own().Do(o).Code; code != 0 {
		return code
	}
	if len(w.disk.Bytes())+came > api.MaxBytes {
		return api.ErrFull
	}
	return 0
}

func (w *walk) order(t *testing.T, n *node.Node, o api.Order) {
	t.Helper()
	code := w.codeOf(n, o, codec.Size)
	want := api.Answer{Code: code}
	ahead, b, wasDown := tell(n), w.disk.Bytes(), n.Down()
	if code == 0 {
		want = w.plain.Do(o)
		ahead, b = tell(w.plain), append(b, record(t, n.Epoch(), o)...)
	}
	wantAnswer(t, n, o, want)
	wantTable(t, n, ahead)
	wantBytes(t, w.disk, b)
	wantDown(t, n, wasDown || code == api.ErrFenced)
	w.seen[code]++
}

func (w *walk) tear(t *testing.T, n *node.Node, o api.Order, keep int) {
	t.Helper()
	came := min(max(keep, 0), codec.Size)
	code := w.codeOf(n, o, came)
	ahead, b, wasDown := tell(n), w.disk.Bytes(), n.Down()
	if code == 0 {
		b = append(b, record(t, n.Epoch(), o)[:came]...)
		w.torn++
	}
	if code == 0 && came == codec.Size {
		w.plain.Do(o)
	}
	wantTear(t, n, o, keep, code)
	wantTable(t, n, ahead)
	wantBytes(t, w.disk, b)
	wantDown(t, n, wasDown || code == 0 || code == api.ErrFenced)
	w.seen[code]++
}

func (w *walk) step(t *testing.T, d *dice) {
	t.Helper()
	n := w.nodes[len(w.nodes)-1]
	if d.throw(5) == 0 {
		n = w.nodes[max(len(w.nodes)-1-d.throw(3), 0)]
	}
	switch d.throw(24) {
	case 0:
		w.open(t)
	case 1:
		w.tear(t, n, throwFitting(d, n), keeps[d.throw(len(keeps))])
	case 2:
		if d.throw(4) == 0 {
			n.Stop()
			wantDown(t, n, true)
		}
	default:
		w.order(t, n, throwFitting(d, n))
	}
	if n.Down() && d.throw(3) == 0 {
		w.open(t)
	}
}

// fill leaves room for few more records.
func (w *walk) fill(t *testing.T) {
	t.Helper()
	w.order(t, w.nodes[0], add(0, 0))
	w.order(t, w.nodes[0], take(0, 0, 20))
	for range 150 {
		w.order(t, w.nodes[0], renew(0, 0, 1, 0, 20))
	}
}

func TestWalksOfThrownSteps(t *testing.T) {
	var seen [api.ErrDown + 1]int
	torn := 0
	for seed := range 120 {
		d := dice(seed)
		w := &walk{disk: disk.New(), plain: jobs.New()}
		w.open(t)
		if seed%3 == 0 {
			w.fill(t)
		}
		for range 600 {
			w.step(t, &d)
		}
		for code, n := range w.seen {
			seen[code] += n
		}
		torn += w.torn
	}
	for _, code := range []int{0, api.ErrKind, api.ErrForm, api.ErrRange, api.ErrThere, api.ErrNone, api.ErrOther, api.ErrFull, api.ErrFenced, api.ErrDown} {
		if seen[code] == 0 {
			t.Errorf("no order had the code %d", code)
		}
	}
	if torn < 100 {
		t.Errorf("only %d orders were torn", torn)
	}
}

// throwDisk makes bytes of records of which some epochs are wrong, some are
// turned, and some are torn.
func throwDisk(t *testing.T, d *dice, epoch int) []byte {
	t.Helper()
	var b []byte
	x, e := jobs.New(), 1
	for range d.throw(12) {
		o := throwFitting(d, x)
		if jobs.Check(o) != 0 {
			continue
		}
		x.Do(o)
		e = min(e+d.throw(3), epoch)
		r := record(t, e, o)
		switch d.throw(20) {
		case 0:
			r = record(t, min(epoch+1+d.throw(2), api.MaxEpoch), o)
		case 1:
			r = record(t, max(e-1, 1), o)
		case 2:
			r[d.throw(len(r))] ^= byte(1 + d.throw(255))
		case 3:
			r = r[:d.throw(len(r))]
		}
		b = append(b, r...)
	}
	return b
}

// staying may leave out records wherever they stand: their epochs do not
// fall, so behind the first that is above the disk all are.
func staying(b []byte, epoch int) []api.Record {
	all := codec.All(b)
	return slices.DeleteFunc(all, func(r api.Record) bool { return r.Epoch > epoch })
}

func TestOpenOfThrownDisks(t *testing.T) {
	shorter, whole := 0, 0
	for seed := range 20000 {
		d := dice(seed)
		epoch := 1 + d.throw(6)
		b := throwDisk(t, &d, epoch)
		x := diskOf(t, epoch, b)
		stay := staying(b, epoch)
		plain := jobs.New()
		for _, r := range stay {
			plain.Do(r.Order)
		}
		wantTable(t, open(t, x), tell(plain))
		wantBytes(t, x, b[:len(stay)*codec.Size])
		if len(stay) < len(codec.All(b)) {
			shorter++
		}
		if len(b) > 0 && len(stay)*codec.Size == len(b) {
			whole++
		}
	}
	if shorter == 0 || whole == 0 {
		t.Errorf("%d disks had records that are above them, %d were whole", shorter, whole)
	}
}

// callAll makes all calls of a node with one number, whatever it is.
func callAll(n *node.Node, x, y int) {
	n.Job(x)
	n.Now()
	n.Epoch()
	n.Down()
	for kind := range 7 {
		n.Order(api.Order{Kind: kind, Now: x, Job: y, Try: x, Worker: y, Term: x})
		n.Order(api.Order{Kind: kind, Now: y})
	}
	n.Tear(api.Order{Kind: x, Now: y}, y)
	n.Tear(api.Order{Kind: 1 + y&3, Now: x, Job: x, Term: y}, x)
}

func TestNoCallPanicsWhateverItIsGiven(t *testing.T) {
	for _, x := range keeps {
		for _, y := range keeps {
			n, d := serving(t, add(0, 1), take(0, 1, 20))
			callAll(n, x, y)
			next := open(t, d)
			callAll(n, x, y)
			next.Stop()
			callAll(next, x, y)
		}
	}
}
