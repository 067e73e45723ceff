package guild_test

import (
	"encoding/hex"
	"testing"

	"vergers/api"
	"vergers/codec"
	"vergers/guild"
	"vergers/jobs"
)

// dice answers numbers that look thrown, the same ones of each seed.
type dice uint64

func (d *dice) throw(n int) int {
	*d = *d*6364136223846793005 + 1442695040888963407
	return int(uint64(*d)>>33) % n
}

// modelNode is what can be told of a node; of epoch 0 it never served.
type modelNode struct {
	epoch int
	down  bool
	table *jobs.Table
}

// model is a guild told plainly: one table that is given all orders that were
// answered without a code or torn behind their last byte, and their bytes.
type model struct {
	now, epoch int
	plain      *jobs.Table
	whole      []byte
	torn       []byte
	nodes      [api.Nodes]modelNode
}

func newModel() *model { return &model{plain: jobs.New()} }

func (m *model) step(x api.Step) api.Answer {
	switch x.Kind {
	case api.SOpen:
		return api.Answer{Code: m.open(x.N)}
	case api.STick:
		if x.N < 0 || x.N > api.MaxTime || m.now+x.N > api.MaxTime {
			return api.Answer{Code: api.ErrRange}
		}
		m.now += x.N
		return api.Answer{}
	case api.SOrder, api.STear, api.SDown:
		if x.N < 0 || x.N >= api.Nodes || m.nodes[x.N].epoch == 0 {
			return api.Answer{Code: api.ErrNone}
		}
		x.Order.Now = m.now
		return m.ask(&m.nodes[x.N], x)
	}
	return api.Answer{Code: api.ErrKind}
}

func (m *model) open(n int) int {
	if n < 0 || n >= api.Nodes {
		return api.ErrRange
	}
	if m.epoch == api.MaxEpoch {
		return api.ErrFull
	}
	m.epoch++
	m.torn = nil
	m.nodes[n] = modelNode{epoch: m.epoch, table: m.plain.Own()}
	return 0
}

func (m *model) ask(n *modelNode, x api.Step) api.Answer {
	if x.Kind == api.SDown {
		n.down = true
		return api.Answer{}
	}
	keep := codec.Size
	if x.Kind == api.STear {
		keep = min(max(x.Keep, 0), codec.Size)
	}
	if code := m.codeOf(n, x.Order, keep); code != 0 {
		n.down = n.down || code == api.ErrFenced
		return api.Answer{Code: code}
	}
	answer := m.write(x.Order, keep)
	if x.Kind == api.STear {
		n.down = true
		return api.Answer{}
	}
	n.table = m.plain.Own()
	return answer
}

func (m *model) codeOf(n *modelNode, o api.Order, keep int) int {
	switch {
	case n.down:
		return api.ErrDown
	case n.epoch != m.epoch:
		return api.ErrFenced
	}
	if code := m.plain.Own().Do(o).Code; code != 0 {
		return code
	}
	if len(m.whole)+len(m.torn)+keep > api.MaxBytes {
		return api.ErrFull
	}
	return 0
}

// write is of the one that serves, so that the epoch is the disk's.
func (m *model) write(o api.Order, keep int) api.Answer {
	b, _ := codec.Encode(api.Record{Epoch: m.epoch, Order: o})
	if keep < codec.Size {
		m.torn = b[:keep]
		return api.Answer{}
	}
	m.whole = append(m.whole, b...)
	return m.plain.Do(o)
}

// look tells the model's state as that of the guild, whose nodes are taken.
func (m *model) look(g *guild.Guild) state {
	s := state{now: m.now, epoch: m.epoch, bytes: hex.EncodeToString(m.whole) + hex.EncodeToString(m.torn)}
	for i, n := range m.nodes {
		if n.epoch != 0 {
			s.nodes[i] = nodeState{g.Node(i), n.epoch, n.down, tell(n.table)}
		}
	}
	return s
}

// both gives a step to a guild and its model.
func both(t *testing.T, g *guild.Guild, m *model, x api.Step) api.Answer {
	t.Helper()
	want := m.step(x)
	wantAnswer(t, g, x, want)
	wantState(t, g, m.look(g))
	return want
}

// throwOrder makes orders that mostly have no code of Check, and are often
// those of who holds the job.
func throwOrder(d *dice, now int, x teller) api.Order {
	job, try := d.throw(api.MaxJobs), 1+d.throw(api.MaxTries)
	worker, term := d.throw(api.Workers), 1+d.throw(api.MaxTerm)
	if j := x.Job(job); j.State == api.Held && d.throw(4) > 0 {
		try, worker = j.Try, j.Worker
	}
	says := []int{now, 0, now + 1, api.MaxTime, api.MaxTime + 1, -1, far[0], far[len(far)-1]}[d.throw(8)]
	switch d.throw(8) {
	case 0:
		return at(says, add(job))
	case 1, 2:
		return at(says, take(worker, term))
	case 3, 4:
		return at(says, renew(job, try, worker, term))
	case 5:
		return at(says, done(job, try, worker))
	case 6:
		return at(says, drop(job, try, worker))
	}
	return api.Order{Kind: d.throw(8), Now: says, Job: d.throw(8) - 1, Try: d.throw(6) - 1, Worker: d.throw(6) - 1, Term: d.throw(23) - 1}
}

func throwStep(d *dice, m *model) api.Step {
	x := api.Step{N: d.throw(api.Nodes), Keep: keeps[d.throw(len(keeps))], Order: throwOrder(d, m.now, m.plain)}
	if d.throw(30) == 0 {
		x.N = noNodes[d.throw(len(noNodes))]
	}
	for i, n := range m.nodes {
		if n.epoch == m.epoch && d.throw(4) > 0 {
			x.N = i
		}
	}
	switch d.throw(24) {
	case 0:
		x.Kind, x.N = api.SOpen, d.throw(api.Nodes+2)-1
	case 1:
		x.Kind = api.STear
	case 2:
		x.Kind = api.SDown
	case 3, 4, 5, 6:
		x.Kind, x.N = api.STick, d.throw(5)
	case 7:
		x.Kind, x.N = api.STick, []int{-1, api.MaxTime - m.now, api.MaxTime - m.now + 1, 300, far[0], far[len(far)-1], 0, 20}[d.throw(40)%8]
		if x.N == api.MaxTime-m.now && d.throw(10) > 0 {
			x.N = 1
		}
	case 8:
		x.Kind = d.throw(9) - 1
	default:
		x.Kind = api.SOrder
	}
	if x.Kind == api.SOrder && m.epoch > 0 && d.throw(3) == 0 && m.noneServes() {
		return open(d.throw(api.Nodes))
	}
	return x
}

func (m *model) noneServes() bool {
	for _, n := range m.nodes {
		if n.epoch == m.epoch && !n.down {
			return false
		}
	}
	return true
}

// fill leaves room for few more records.
func fill(t *testing.T, g *guild.Guild, m *model) {
	t.Helper()
	for _, x := range []api.Step{open(0), order(0, add(0)), order(0, take(0, 20))} {
		both(t, g, m, x)
	}
	for range 140 {
		both(t, g, m, order(0, renew(0, 1, 0, 20)))
	}
}

// tally counts what was seen, so that a walk that sees little is known.
type tally struct {
	codes    [api.ErrDown + 1]int
	kinds    [api.STick + 1]int
	takes    int
	wholeOfs int
}

func (y *tally) count(x api.Step, a api.Answer) {
	y.codes[a.Code]++
	if a.Code != 0 {
		return
	}
	y.kinds[x.Kind]++
	if x.Kind == api.STear && x.Keep >= codec.Size {
		y.wholeOfs++
	}
	if x.Kind == api.SOrder && x.Order.Kind == api.OTake {
		y.takes++
	}
}

func TestWalksOfThrownSteps(t *testing.T) {
	var seen tally
	for seed := range 150 {
		d := dice(seed)
		g, m := guild.New(), newModel()
		if seed%3 == 0 {
			fill(t, g, m)
		}
		for range 500 {
			x := throwStep(&d, m)
			seen.count(x, both(t, g, m, x))
		}
	}
	for _, code := range []int{0, api.ErrKind, api.ErrForm, api.ErrRange, api.ErrThere, api.ErrNone, api.ErrOther, api.ErrFull, api.ErrFenced, api.ErrDown} {
		if seen.codes[code] == 0 {
			t.Errorf("no step had the code %d", code)
		}
	}
	for kind := api.SOpen; kind <= api.STick; kind++ {
		if seen.kinds[kind] < 100 {
			t.Errorf("only %d steps of the kind %d had no code", seen.kinds[kind], kind)
		}
	}
	if seen.takes < 100 || seen.wholeOfs < 30 {
		t.Errorf("too little was seen: %+v", seen)
	}
}

// held is a try of a job.
type held struct{ job, try int }

// TestNoTryIsGivenTwice looks at answers alone, of whichever nodes.
func TestNoTryIsGivenTwice(t *testing.T) {
	given, ended := 0, 0
	for seed := range 200 {
		d := dice(seed + 1000)
		g, m := guild.New(), newModel()
		gave, isDone := map[held]int{}, map[int]int{}
		for range 300 {
			x := throwStep(&d, m)
			m.step(x)
			a := g.Step(x)
			if a.Code != 0 || x.Kind != api.SOrder {
				continue
			}
			switch x.Order.Kind {
			case api.OTake:
				gave[held{a.Job, a.Try}]++
				given++
			case api.ODone:
				isDone[x.Order.Job]++
				ended++
			}
		}
		for h, n := range gave {
			if n > 1 {
				t.Fatalf("%+v was given %d times", h, n)
			}
		}
		for job, n := range isDone {
			if n > 1 {
				t.Fatalf("job %d was done %d times", job, n)
			}
		}
	}
	if given < 500 || ended < 100 {
		t.Errorf("%d were given, %d done", given, ended)
	}
}

// few are steps of which all ways to go some behind each other are gone.
func few() []api.Step {
	return []api.Step{
		open(0), open(2), tick(3), down(0),
		order(0, add(1)), order(2, add(1)), order(0, take(1, 3)), order(2, take(2, 3)),
		tear(0, 8, take(3, 4)), tear(2, 9, take(3, 4)), order(2, done(1, 1, 1)),
	}
}

func TestAllWaysOfFewSteps(t *testing.T) {
	steps := few()
	const long = 5
	ways := 1
	for range long {
		ways *= len(steps)
	}
	for way := range ways {
		g, m := guild.New(), newModel()
		both(t, g, m, open(0))
		rest := way
		for range long {
			x := steps[rest%len(steps)]
			rest /= len(steps)
			if got, want := g.Step(x), m.step(x); got != want {
				t.Fatalf("way %d: Step(%+v) = %+v, want %+v", way, x, got, want)
			}
		}
		wantState(t, g, m.look(g))
	}
}

func TestTheSameStepsAreAnsweredTheSame(t *testing.T) {
	for seed := range 30 {
		d := dice(seed + 77)
		one, other, m := guild.New(), guild.New(), newModel()
		for range 200 {
			x := throwStep(&d, m)
			m.step(x)
			if a, b := one.Step(x), other.Step(x); a != b {
				t.Fatalf("Step(%+v) = %+v, and %+v", x, a, b)
			}
		}
		wantLike(t, one, other)
	}
}

func TestNoCallPanicsWhateverItIsGiven(t *testing.T) {
	all := append([]int{0, 1, 2, 3, 4, 5, 6, 9, 20, api.MaxTime, api.MaxTime + 1}, far...)
	for _, x := range all {
		for _, y := range all {
			g := guild.New()
			for kind := -1; kind < 8; kind++ {
				for _, n := range []int{x, y, 0, 2} {
					g.Step(api.Step{Kind: kind, N: n, Keep: y, Order: api.Order{Kind: kind, Now: x, Job: y, Try: x, Worker: y, Term: x}})
					g.Step(api.Step{Kind: x, N: n, Keep: y, Order: api.Order{Kind: y, Now: y, Job: n}})
				}
			}
			g.Node(x)
			if g.Now() < 0 || g.Now() > api.MaxTime || g.Epoch() > api.MaxEpoch || len(g.Bytes()) > api.MaxBytes {
				t.Fatalf("it is %d, of %d, with %d bytes", g.Now(), g.Epoch(), len(g.Bytes()))
			}
		}
	}
}
