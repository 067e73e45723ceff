package guild_test

import (
	"encoding/hex"
	"slices"
	"testing"

	"vergers/api"
	"vergers/codec"
	"vergers/guild"
	"vergers/jobs"
)

func TestANewGuild(t *testing.T) {
	g := guild.New()
	wantState(t, g, state{})
	for _, n := range append([]int{0, 1, 2}, noNodes...) {
		if g.Node(n) != nil {
			t.Errorf("the node %d is %v", n, g.Node(n))
		}
	}
}

func TestGuildsAreOfTheirOwn(t *testing.T) {
	stepped(t, open(0), open(1), tick(7), order(1, add(3)), down(0))
	wantState(t, guild.New(), state{})
	one, other := guild.New(), guild.New()
	stepAll(t, one, open(2), tick(1), order(2, add(0)))
	wantState(t, other, state{})
	stepAll(t, other, open(2), order(2, add(5)))
	wantNode(t, one, 2, 1, false, after(at(1, add(0))))
	wantNode(t, other, 2, 1, false, after(add(5)))
}

func TestStepsOfEveryKind(t *testing.T) {
	g := guild.New()
	for _, x := range []struct {
		step api.Step
		want api.Answer
	}{
		{open(1), api.Answer{}},
		{order(1, add(4)), api.Answer{}},
		{order(1, add(2)), api.Answer{}},
		{tick(3), api.Answer{}},
		{order(1, take(2, 5)), api.Answer{Job: 2, Try: 1}},
		{open(0), api.Answer{}},
		{order(0, take(3, 9)), api.Answer{Job: 4, Try: 1}},
		{order(1, take(3, 9)), api.Answer{Code: api.ErrFenced}},
		{tick(5), api.Answer{}},
		{order(0, done(2, 1, 2)), api.Answer{Code: api.ErrOther}},
		{tear(0, 4, take(0, 6)), api.Answer{}},
		{order(0, take(0, 6)), api.Answer{Code: api.ErrDown}},
		{open(2), api.Answer{}},
		{order(2, take(0, 6)), api.Answer{Job: 2, Try: 2}},
		{down(2), api.Answer{}},
		{order(2, done(2, 2, 0)), api.Answer{Code: api.ErrDown}},
		{open(1), api.Answer{}},
		{order(1, done(2, 2, 0)), api.Answer{}},
	} {
		wantAnswer(t, g, x.step, x.want)
	}
	orders := []api.Order{add(4), add(2), at(3, take(2, 5)), at(3, take(3, 9)), at(8, take(0, 6)), at(8, done(2, 2, 0))}
	wantNode(t, g, 0, 2, true, after(orders[:4]...))
	wantNode(t, g, 1, 4, false, after(orders...))
	wantNode(t, g, 2, 3, true, after(orders[:5]...))
	var b []byte
	for i, epoch := range []int{1, 1, 1, 2, 3, 4} {
		b = append(b, record(t, epoch, orders[i])...)
	}
	wantBytes(t, g, b)
	if g.Now() != 8 || g.Epoch() != 4 {
		t.Errorf("it is %d, of the epoch %d", g.Now(), g.Epoch())
	}
}

func TestAKindThatThereIsNot(t *testing.T) {
	serves := stepped(t, open(0), order(0, add(1)), tick(4), open(2))
	for _, kind := range append([]int{0, 6, 7, 257, 258}, far...) {
		for _, n := range append([]int{0, 1, 2}, noNodes...) {
			wantRefused(t, guild.New(), api.Step{Kind: kind, N: n}, api.ErrKind)
			wantRefused(t, serves, api.Step{Kind: kind, N: n, Keep: n, Order: add(n)}, api.ErrKind)
		}
	}
}

func TestOpenOfEachNumber(t *testing.T) {
	g := guild.New()
	for n := range api.Nodes {
		for _, x := range noNodes {
			wantRefused(t, g, open(x), api.ErrRange)
		}
		ahead := look(g)
		stepAll(t, g, open(n))
		ahead.epoch = n + 1
		ahead.nodes[n] = nodeState{node: g.Node(n), epoch: n + 1}
		wantState(t, g, ahead)
	}
	for _, x := range noNodes {
		wantRefused(t, g, open(x), api.ErrRange)
		if g.Node(x) != nil {
			t.Errorf("the node %d is %v", x, g.Node(x))
		}
	}
}

// wantOpened: the node is another one behind the step, of the next epoch, up
// and with that table; all else of the guild is as it was.
func wantOpened(t *testing.T, g *guild.Guild, n int, table told) {
	t.Helper()
	want := look(g)
	stepAll(t, g, open(n))
	if g.Node(n) == want.nodes[n].node {
		t.Fatalf("the node %d is the one that it was", n)
	}
	want.epoch++
	want.nodes[n] = nodeState{g.Node(n), want.epoch, false, table}
	wantState(t, g, want)
}

func TestANodeIsOpenedAnewWhileItServes(t *testing.T) {
	g := stepped(t, open(0), tick(2), order(0, add(1)), order(0, take(1, 7)))
	table := after(at(2, add(1)), at(2, take(1, 7)))
	was := g.Node(0)
	for range 3 {
		wantOpened(t, g, 0, table)
	}
	if was.Down() || was.Epoch() != 1 {
		t.Errorf("who was fenced is of %d, down: %v", was.Epoch(), was.Down())
	}
	wantAnswer(t, g, order(0, done(1, 1, 1)), api.Answer{})
	if tell(was) != table {
		t.Errorf("who was fenced has another table now: %+v", tell(was))
	}
}

func TestANodeIsOpenedAnewWhenItIsDown(t *testing.T) {
	g := stepped(t, open(2), tick(2), order(2, add(1)), down(2))
	was := g.Node(2)
	wantOpened(t, g, 2, after(at(2, add(1))))
	if !was.Down() || g.Node(2).Down() {
		t.Errorf("the one that was is down: %v, the new one: %v", was.Down(), g.Node(2).Down())
	}
	wantAnswer(t, g, order(2, take(0, 3)), api.Answer{Try: 1, Job: 1})
}

func TestANodeIsOpenedWhenAnotherOneServes(t *testing.T) {
	g := stepped(t, open(0), order(0, add(1)))
	wantOpened(t, g, 1, after(add(1)))
	stepAll(t, g, tick(1), order(1, add(2)))
	wantOpened(t, g, 0, after(add(1), at(1, add(2))))
	wantAnswer(t, g, order(1, add(3)), api.Answer{Code: api.ErrFenced})
	wantAnswer(t, g, order(0, add(3)), api.Answer{})
	wantNode(t, g, 0, 3, false, after(add(1), at(1, add(2)), at(1, add(3))))
	wantNode(t, g, 1, 2, true, after(add(1), at(1, add(2))))
}

func TestOpenDoesWhatWasTornBehindItsLastByte(t *testing.T) {
	for _, keep := range keeps {
		g := stepped(t, open(0), tick(5), order(0, add(1)), tear(0, keep, take(3, 4)))
		stepAll(t, g, open(1))
		orders := []api.Order{at(5, add(1))}
		b := record(t, 1, orders[0])
		if keep >= codec.Size {
			orders = append(orders, at(5, take(3, 4)))
			b = append(b, record(t, 1, orders[1])...)
		}
		wantNode(t, g, 0, 1, true, after(at(5, add(1))))
		wantNode(t, g, 1, 2, false, after(orders...))
		wantBytes(t, g, b)
	}
}

// lastEpoch answers a guild whose disk's epoch is MaxEpoch, and which node
// serves from it; another one never served.
func lastEpoch(t *testing.T) (g *guild.Guild, serves, never int) {
	t.Helper()
	g = stepped(t, open(0), order(0, add(1)))
	for epoch := 2; epoch <= api.MaxEpoch; epoch++ {
		stepAll(t, g, open((epoch-1)%2))
	}
	return g, (api.MaxEpoch - 1) % 2, 2
}

func TestOpenBehindTheLastEpoch(t *testing.T) {
	g, serves, never := lastEpoch(t)
	wantNode(t, g, serves, api.MaxEpoch, false, after(add(1)))
	for n := range api.Nodes {
		wantRefused(t, g, open(n), api.ErrFull)
	}
	for _, n := range noNodes {
		wantRefused(t, g, open(n), api.ErrRange)
	}
	if g.Node(never) != nil {
		t.Errorf("the node %d is %v", never, g.Node(never))
	}
	wantBothRefused(t, g, never, add(2), api.ErrNone)
	wantRefused(t, g, down(never), api.ErrNone)
	wantAnswer(t, g, order(serves, add(2)), api.Answer{})
	wantAnswer(t, g, tear(serves, 8, add(3)), api.Answer{})
	wantRefused(t, g, open(serves), api.ErrFull)
	wantBytes(t, g, record(t, 1, add(1)), record(t, 100, add(2)), record(t, 100, add(3))[:8])
	wantNode(t, g, serves, api.MaxEpoch, true, after(add(1), add(2)))
}

func TestTheClock(t *testing.T) {
	g := guild.New()
	now := 0
	for _, n := range []int{0, 1, 0, 20, 255, 256, 9, 50000, 9000, 0} {
		stepAll(t, g, tick(n))
		now += n
		wantState(t, g, state{now: now})
	}
	wantRefused(t, g, tick(api.MaxTime-now+1), api.ErrRange)
	stepAll(t, g, tick(api.MaxTime-now))
	wantState(t, g, state{now: api.MaxTime})
	wantRefused(t, g, tick(1), api.ErrRange)
	wantAnswer(t, g, tick(0), api.Answer{})
	wantState(t, g, state{now: api.MaxTime})
}

func TestTheClockGoesNeitherBackNorTooFar(t *testing.T) {
	for _, now := range []int{0, 1, 100, api.MaxTime - 1, api.MaxTime} {
		g := stepped(t, open(1), tick(now))
		for _, n := range append([]int{-now, -now - 1, api.MaxTime - now + 1, api.MaxTime + 1}, far...) {
			if n == 0 {
				continue
			}
			wantRefused(t, g, tick(n), api.ErrRange)
		}
		stepAll(t, g, tick(api.MaxTime-now))
		if g.Now() != api.MaxTime {
			t.Errorf("the clock says %d", g.Now())
		}
	}
}

func TestTheClockAloneDoesNothingToJobs(t *testing.T) {
	g := stepped(t, open(0), order(0, add(1)), order(0, take(1, 3)), open(1))
	ahead := look(g)
	stepAll(t, g, tick(30))
	ahead.now = 30
	wantState(t, g, ahead)
	wantAnswer(t, g, order(1, take(2, 3)), api.Answer{Job: 1, Try: 2})
	wantNode(t, g, 1, 2, false, after(add(1), take(1, 3), at(30, take(2, 3))))
}

func TestJobsAtTheEndOfTheClock(t *testing.T) {
	g := stepped(t, tick(api.MaxTime), open(2), order(2, add(0)), order(2, take(1, api.MaxTerm)))
	wantNode(t, g, 2, 1, false, after(at(api.MaxTime, add(0)), at(api.MaxTime, take(1, api.MaxTerm))))
	if j := g.Node(2).Job(0); j.Until != api.MaxTime+api.MaxTerm || g.Node(2).Now() != api.MaxTime {
		t.Errorf("job 0 is %+v at %d", j, g.Node(2).Now())
	}
	wantBytes(t, g, record(t, 1, at(api.MaxTime, add(0))), record(t, 1, at(api.MaxTime, take(1, api.MaxTerm))))
}

func TestOrdersAreGivenAtTheClocksTime(t *testing.T) {
	for _, clock := range []int{0, 1, 300, api.MaxTime} {
		for _, says := range append([]int{0, 1, 2, 299, 301, api.MaxTime, api.MaxTime + 1}, far...) {
			g := stepped(t, open(0), tick(clock))
			stepAll(t, g, order(0, at(says, add(1))))
			wantAnswer(t, g, order(0, at(says, take(2, 5))), api.Answer{Job: 1, Try: 1})
			orders := []api.Order{at(clock, add(1)), at(clock, take(2, 5)), at(clock, done(1, 1, 2))}
			wantNode(t, g, 0, 1, false, after(orders[:2]...))
			stepAll(t, g, tear(0, codec.Size, at(says, orders[2])))
			wantNode(t, g, 0, 1, true, after(orders[:2]...))
			wantBytes(t, g, record(t, 1, orders[0]), record(t, 1, orders[1]), record(t, 1, orders[2]))
			stepAll(t, g, open(0))
			wantNode(t, g, 0, 2, false, after(orders...))
			wantBothRefused(t, g, 0, at(says, add(1)), api.ErrThere)
			wantBothRefused(t, g, 0, at(says, add(6)), api.ErrRange)
		}
	}
}

// refused has an order of each code that a table has, behind add(1), add(2)
// and take(2, 5) at 4, while the clock says 6.
func refused() []struct {
	order api.Order
	code  int
} {
	return []struct {
		order api.Order
		code  int
	}{
		{api.Order{}, api.ErrKind}, {api.Order{Kind: 6}, api.ErrKind}, {api.Order{Kind: -1, Now: -1}, api.ErrKind},
		{api.Order{Kind: api.OAdd, Job: 3, Term: 1}, api.ErrForm}, {api.Order{Kind: api.OTake, Job: 1, Term: 1}, api.ErrForm},
		{add(-1), api.ErrRange}, {add(api.MaxJobs), api.ErrRange}, {take(api.Workers, 5), api.ErrRange}, {take(0, 0), api.ErrRange},
		{take(0, api.MaxTerm+1), api.ErrRange}, {done(1, 0, 2), api.ErrRange}, {done(1, api.MaxTries+1, 2), api.ErrRange},
		{add(1), api.ErrThere}, {add(2), api.ErrThere},
		{done(3, 1, 2), api.ErrNone}, {renew(0, 1, 1, 4), api.ErrNone},
		{done(1, 1, 1), api.ErrOther}, {drop(1, 2, 2), api.ErrOther}, {renew(2, 1, 2, 5), api.ErrOther},
	}
}

// holding answers a guild that is as refused wants it, and whose node 1
// serves; node 2 never served.
func holding(t *testing.T) *guild.Guild {
	t.Helper()
	return stepped(t, open(0), order(0, add(1)), open(1), order(1, add(2)), tick(4), order(1, take(2, 5)), tick(2))
}

func TestAnOrderThatIsRefused(t *testing.T) {
	g := holding(t)
	for _, x := range refused() {
		wantBothRefused(t, g, 1, x.order, x.code)
	}
	stepAll(t, g, order(1, take(0, 9)))
	wantBothRefused(t, g, 1, take(3, 1), api.ErrNone)
	stepAll(t, g, tick(3))
	wantBothRefused(t, g, 1, done(1, 1, 2), api.ErrOther)
	wantAnswer(t, g, order(1, take(3, 1)), api.Answer{Job: 1, Try: 2})
}

func TestOrdersOfVeryGreatNumbers(t *testing.T) {
	g := holding(t)
	for _, x := range far {
		wantBothRefused(t, g, 1, api.Order{Kind: x}, api.ErrKind)
		wantBothRefused(t, g, 1, add(x), api.ErrRange)
		wantBothRefused(t, g, 1, take(x, 1), api.ErrRange)
		wantBothRefused(t, g, 1, take(1, x), api.ErrRange)
		wantBothRefused(t, g, 1, renew(1, x, 2, 1), api.ErrRange)
		wantBothRefused(t, g, 1, api.Order{Kind: api.ODone, Job: 1, Try: 1, Worker: 2, Term: x}, api.ErrForm)
		wantBothRefused(t, g, 1, api.Order{Kind: x, Now: x, Job: x, Try: x, Worker: x, Term: x}, api.ErrKind)
	}
}

func TestANodeThatNeverServedAndANumberThatThereIsNot(t *testing.T) {
	fresh, g := guild.New(), holding(t)
	for _, n := range append([]int{0, 1}, noNodes...) {
		wantBothRefused(t, fresh, n, add(3), api.ErrNone)
		wantRefused(t, fresh, down(n), api.ErrNone)
	}
	for _, n := range append([]int{2}, noNodes...) {
		if g.Node(n) != nil {
			t.Errorf("the node %d is %v", n, g.Node(n))
		}
		wantBothRefused(t, g, n, add(3), api.ErrNone)
		wantRefused(t, g, down(n), api.ErrNone)
		for _, x := range refused() {
			wantRefused(t, g, order(n, x.order), api.ErrNone)
			wantRefused(t, g, tear(n, 9, x.order), api.ErrNone)
		}
	}
}

func TestANodeThatIsDown(t *testing.T) {
	for _, fall := range []api.Step{down(1), tear(1, -1, add(3)), tear(1, 0, add(3)), tear(1, 8, add(3)), tear(1, 9, add(3))} {
		g := holding(t)
		stepAll(t, g, fall)
		if !g.Node(1).Down() || g.Node(0).Down() {
			t.Fatalf("behind %+v", fall)
		}
		wantBothRefused(t, g, 1, add(4), api.ErrDown)
		for _, x := range refused() {
			wantBothRefused(t, g, 1, x.order, api.ErrDown)
		}
		wantRefused(t, g, down(1), 0)
		stepAll(t, g, open(0))
		wantBothRefused(t, g, 1, add(4), api.ErrDown)
		wantRefused(t, g, down(1), 0)
	}
}

func TestDownChangesNothingElse(t *testing.T) {
	g := holding(t)
	for n := range 2 {
		want := look(g)
		stepAll(t, g, down(n))
		want.nodes[n].down = true
		wantState(t, g, want)
	}
	g = holding(t)
	stepAll(t, g, down(0))
	wantAnswer(t, g, order(1, take(1, 3)), api.Answer{Job: 2, Try: 1})
}

func TestANodeThatWasFenced(t *testing.T) {
	steps := []api.Step{order(0, add(3)), order(0, api.Order{}), order(0, add(1)), order(0, at(-1, take(1, 1))), order(0, done(1, 1, 2))}
	for _, keep := range keeps {
		steps = append(steps, tear(0, keep, add(3)), tear(0, keep, api.Order{}), tear(0, keep, add(2)))
	}
	for _, x := range steps {
		g := holding(t)
		if g.Node(0).Down() {
			t.Fatal("it knows ahead of being ordered")
		}
		want := look(g)
		wantAnswer(t, g, x, api.Answer{Code: api.ErrFenced})
		want.nodes[0].down = true
		wantState(t, g, want)
		wantRefused(t, g, x, api.ErrDown)
		wantRefused(t, g, down(0), 0)
		wantAnswer(t, g, order(1, add(3)), api.Answer{})
	}
}

func TestTear(t *testing.T) {
	for _, o := range []api.Order{add(3), take(3, 5), renew(1, 1, 2, 20), done(1, 1, 2), drop(1, 1, 2)} {
		for _, keep := range keeps {
			g := holding(t)
			want := look(g)
			wantAnswer(t, g, tear(1, keep, o), api.Answer{})
			came := record(t, 2, at(6, o))[:min(max(keep, 0), codec.Size)]
			want.bytes += hex.EncodeToString(came)
			want.nodes[1].down = true
			wantState(t, g, want)
			orders := []api.Order{add(1), add(2), at(4, take(2, 5))}
			if keep >= codec.Size {
				orders = append(orders, at(6, o))
			}
			stepAll(t, g, open(2))
			wantNode(t, g, 2, 3, false, after(orders...))
			if len(g.Bytes()) != len(orders)*codec.Size {
				t.Fatalf("%d bytes stay", len(g.Bytes()))
			}
		}
	}
}

// filled answers a guild whose disk has room for six bytes more, and whose
// node 1 serves from it; job 0 is held as try 1 by worker 0.
func filled(t *testing.T) *guild.Guild {
	t.Helper()
	g := stepped(t, open(0), order(0, add(0)), order(0, take(0, 20)))
	for range 100 {
		stepAll(t, g, order(0, renew(0, 1, 0, 20)))
	}
	stepAll(t, g, open(1), tick(5))
	for range api.MaxBytes/codec.Size - 102 {
		stepAll(t, g, order(1, renew(0, 1, 0, 20)))
	}
	if len(g.Bytes()) != api.MaxBytes-6 {
		t.Fatalf("%d bytes", len(g.Bytes()))
	}
	return g
}

func TestADiskThatHasNoRoom(t *testing.T) {
	g := filled(t)
	for _, o := range []api.Order{add(1), done(0, 1, 0), renew(0, 1, 0, 3), at(-1, drop(0, 1, 0))} {
		wantRefused(t, g, order(1, o), api.ErrFull)
		for _, keep := range []int{7, 8, 9, 10, far[len(far)-1]} {
			wantRefused(t, g, tear(1, keep, o), api.ErrFull)
		}
	}
	wantBothRefused(t, g, 1, add(0), api.ErrThere)
	wantBothRefused(t, g, 1, take(1, 1), api.ErrNone)
	wantAnswer(t, g, order(0, add(1)), api.Answer{Code: api.ErrFenced})
	wantBothRefused(t, g, 0, add(1), api.ErrDown)
	table := tell(g.Node(1))
	wantOpened(t, g, 0, table)
	wantRefused(t, g, order(0, add(1)), api.ErrFull)
}

func TestADiskThatHasRoomForAPart(t *testing.T) {
	for _, keep := range keeps {
		if keep > 6 {
			continue
		}
		g := filled(t)
		want := look(g)
		wantAnswer(t, g, tear(1, keep, done(0, 1, 0)), api.Answer{})
		want.bytes += hex.EncodeToString(record(t, 2, at(5, done(0, 1, 0)))[:max(keep, 0)])
		want.nodes[1].down = true
		wantState(t, g, want)
		stepAll(t, g, open(2))
		wantNode(t, g, 2, 3, false, want.nodes[1].table)
		if len(g.Bytes()) != api.MaxBytes-6 {
			t.Fatalf("%d bytes stay", len(g.Bytes()))
		}
	}
}

func TestFieldsThatAKindDoesNotName(t *testing.T) {
	orders := []api.Order{{}, add(3), take(0, 4), at(50, done(1, 1, 2)), {Kind: -1, Now: far[0], Job: far[1], Try: 9, Worker: 9, Term: 99}}
	for _, o := range orders {
		for _, keep := range keeps {
			for _, x := range []api.Step{open(2), open(1), open(3), tick(5), tick(-5), down(0), down(2), {Kind: 6, N: 1}, order(1, add(4))} {
				plain, g := holding(t), holding(t)
				full := x
				full.Keep = keep
				if x.Kind != api.SOrder {
					full.Order = o
				}
				want := plain.Step(x)
				wantAnswer(t, g, full, want)
				wantLike(t, g, plain)
			}
		}
	}
}

// wantLike: two guilds tell the same, though their nodes are others.
func wantLike(t *testing.T, g, other *guild.Guild) {
	t.Helper()
	a, b := look(g), look(other)
	for n := range a.nodes {
		if (a.nodes[n].node == nil) != (b.nodes[n].node == nil) {
			t.Fatalf("only one of them has the node %d", n)
		}
		a.nodes[n].node, b.nodes[n].node = nil, nil
	}
	if a != b {
		t.Fatalf("one guild is %+v, the other %+v", a, b)
	}
}

func TestBytesAreOfTheirOwn(t *testing.T) {
	g := holding(t)
	ahead := look(g)
	clear(g.Bytes())
	_ = append(g.Bytes()[:3], 7, 7, 7)
	wantState(t, g, ahead)
	b := g.Bytes()
	was := slices.Clone(b)
	stepAll(t, g, tear(1, 5, add(3)), open(2), order(2, add(4)))
	if !slices.Equal(b, was) {
		t.Errorf("bytes that were told became %v, they were %v", b, was)
	}
}

func TestNodesAreToldAsTheyAreWithoutBeingChanged(t *testing.T) {
	g := holding(t)
	ahead := look(g)
	for n := -2; n < api.Nodes+2; n++ {
		if g.Node(n) != g.Node(n) {
			t.Errorf("the node %d is another one each time", n)
		}
	}
	wantState(t, g, ahead)
}

func TestWhoServesDoesNotMatter(t *testing.T) {
	orders := []api.Order{add(5), add(0), take(0, 3), take(1, 20), renew(0, 1, 0, 9), drop(5, 1, 1), take(2, 8), done(5, 2, 2), done(0, 1, 0), add(3)}
	plain := jobs.New()
	var want []api.Answer
	for i, o := range orders {
		want = append(want, plain.Do(at(i+1, o)))
	}
	for way := range 1 << len(orders) {
		g := stepped(t, open(0))
		serves := 0
		for i, o := range orders {
			stepAll(t, g, tick(1))
			if way>>i&1 == 1 {
				serves = (serves + 1 + i%2) % api.Nodes
				stepAll(t, g, open(serves))
			}
			wantAnswer(t, g, order(serves, o), want[i])
		}
		if tell(g.Node(serves)) != tell(plain) {
			t.Fatalf("by the way %b the jobs are %+v, want %+v", way, tell(g.Node(serves)), tell(plain))
		}
	}
}
