package guild_test

import (
	"bytes"
	"encoding/hex"
	"math"
	"slices"
	"testing"

	"vergers/api"
	"vergers/codec"
	"vergers/guild"
	"vergers/jobs"
	"vergers/node"
)

// far are numbers that are in nobody's range, some of them like small ones in
// their last bytes.
var far = []int{math.MinInt64, math.MinInt64 + 1, -1<<32 + 1, -1 << 32, -256, -255, -1, 1<<16 + 1, 1 << 32, 1<<32 + 1, math.MaxInt64 - 1, math.MaxInt64}

// noNodes are numbers of which there is no node.
var noNodes = append([]int{api.Nodes, api.Nodes + 1}, far...)

// keeps are all ways to tear a record.
var keeps = append([]int{0, 1, 2, 3, 4, 5, 6, 7, 8, 9, 10, 18, api.MaxBytes, api.MaxBytes + 1}, far...)

func open(n int) api.Step { return api.Step{Kind: api.SOpen, N: n} }

func tick(n int) api.Step { return api.Step{Kind: api.STick, N: n} }

func down(n int) api.Step { return api.Step{Kind: api.SDown, N: n} }

func order(n int, o api.Order) api.Step { return api.Step{Kind: api.SOrder, N: n, Order: o} }

func tear(n, keep int, o api.Order) api.Step {
	return api.Step{Kind: api.STear, N: n, Keep: keep, Order: o}
}

func add(job int) api.Order { return api.Order{Kind: api.OAdd, Job: job} }

func take(worker, term int) api.Order {
	return api.Order{Kind: api.OTake, Worker: worker, Term: term}
}

func renew(job, try, worker, term int) api.Order {
	return api.Order{Kind: api.ORenew, Job: job, Try: try, Worker: worker, Term: term}
}

func done(job, try, worker int) api.Order {
	return api.Order{Kind: api.ODone, Job: job, Try: try, Worker: worker}
}

func drop(job, try, worker int) api.Order {
	return api.Order{Kind: api.ODrop, Job: job, Try: try, Worker: worker}
}

func at(now int, o api.Order) api.Order {
	o.Now = now
	return o
}

// teller is a table, or a node that is one.
type teller interface {
	Job(int) api.Job
	Now() int
}

// told is all that can be asked of a table.
type told struct {
	jobs [api.MaxJobs]api.Job
	now  int
}

func tell(x teller) told {
	s := told{now: x.Now()}
	for n := range s.jobs {
		s.jobs[n] = x.Job(n)
	}
	return s
}

// after is what one table tells that was given these orders.
func after(orders ...api.Order) told {
	t := jobs.New()
	for _, o := range orders {
		t.Do(o)
	}
	return tell(t)
}

// nodeState is all that can be seen of a node, and which one it is.
type nodeState struct {
	node  *node.Node
	epoch int
	down  bool
	table told
}

// state is all that can be seen of a guild; its bytes are told in hex, to be
// read where a test fails.
type state struct {
	now, epoch int
	bytes      string
	nodes      [api.Nodes]nodeState
}

func look(g *guild.Guild) state {
	s := state{now: g.Now(), epoch: g.Epoch(), bytes: hex.EncodeToString(g.Bytes())}
	for i := range s.nodes {
		if n := g.Node(i); n != nil {
			s.nodes[i] = nodeState{n, n.Epoch(), n.Down(), tell(n)}
		}
	}
	return s
}

// record answers the bytes of an order's record, as an epoch's node writes it.
func record(t *testing.T, epoch int, o api.Order) []byte {
	t.Helper()
	b, code := codec.Encode(api.Record{Epoch: epoch, Order: o})
	if code != 0 {
		t.Fatalf("Encode of %d and %+v: code %d", epoch, o, code)
	}
	return b
}

// stepped answers a new guild that did these steps, all without a code.
func stepped(t *testing.T, steps ...api.Step) *guild.Guild {
	t.Helper()
	g := guild.New()
	stepAll(t, g, steps...)
	return g
}

func stepAll(t *testing.T, g *guild.Guild, steps ...api.Step) {
	t.Helper()
	for _, x := range steps {
		if a := g.Step(x); a.Code != 0 {
			t.Fatalf("Step(%+v) = %+v", x, a)
		}
	}
}

func wantAnswer(t *testing.T, g *guild.Guild, x api.Step, want api.Answer) {
	t.Helper()
	if got := g.Step(x); got != want {
		t.Fatalf("Step(%+v) = %+v, want %+v", x, got, want)
	}
}

// wantRefused: a step has that code alone, and nothing is changed.
func wantRefused(t *testing.T, g *guild.Guild, x api.Step, code int) {
	t.Helper()
	ahead := look(g)
	wantAnswer(t, g, x, api.Answer{Code: code})
	wantState(t, g, ahead)
}

// wantBothRefused: ordered and torn, by whatever bytes, that is refused.
func wantBothRefused(t *testing.T, g *guild.Guild, n int, o api.Order, code int) {
	t.Helper()
	wantRefused(t, g, order(n, o), code)
	for _, keep := range keeps {
		wantRefused(t, g, tear(n, keep, o), code)
	}
}

func wantState(t *testing.T, g *guild.Guild, want state) {
	t.Helper()
	if got := look(g); got != want {
		t.Fatalf("the guild is %+v, want %+v", got, want)
	}
}

func wantBytes(t *testing.T, g *guild.Guild, parts ...[]byte) {
	t.Helper()
	if got, want := g.Bytes(), slices.Concat(parts...); !bytes.Equal(got, want) {
		t.Fatalf("the disk has %v, want %v", got, want)
	}
}

func wantNode(t *testing.T, g *guild.Guild, n, epoch int, isDown bool, table told) {
	t.Helper()
	x := g.Node(n)
	if x == nil {
		t.Fatalf("the node %d is nil", n)
	}
	if x.Epoch() != epoch || x.Down() != isDown || tell(x) != table {
		t.Fatalf("the node %d is of %d, down: %v, %+v; want %d, %v, %+v", n, x.Epoch(), x.Down(), tell(x), epoch, isDown, table)
	}
}
