package codec_test

import (
	"bytes"
	"math"
	"slices"
	"testing"

	"vergers/api"
	"vergers/codec"
	"vergers/jobs"
)

// far are numbers that are in nobody's range, some of them like small ones in
// their last bytes.
var far = []int{math.MinInt64, math.MinInt64 + 1, -1 << 32, -65535, -256, -255, -1, 1 << 16, 1<<16 + 1, 1 << 32, 1<<32 + 1, math.MaxInt64 - 1, math.MaxInt64}

// pair is a record and its bytes, reckoned by hand.
type pair struct {
	record api.Record
	bytes  []byte
}

func of(epoch int, o api.Order) api.Record { return api.Record{Epoch: epoch, Order: o} }

func pairs() []pair {
	return []pair{
		{of(1, api.Order{Kind: api.OAdd}), []byte{1, 1, 0, 0, 0, 0, 0, 0, 4}},
		{of(1, api.Order{Kind: api.OTake, Term: 1}), []byte{1, 2, 0, 0, 0, 0, 0, 1, 14}},
		{of(3, api.Order{Kind: api.OTake, Now: 258, Worker: 1, Term: 7}), []byte{3, 2, 1, 2, 0, 0, 1, 7, 82}},
		{of(2, api.Order{Kind: api.ORenew, Now: 1, Job: 2, Try: 3, Worker: 1, Term: 4}), []byte{2, 3, 0, 1, 2, 3, 1, 4, 80}},
		{of(100, api.Order{Kind: api.ORenew, Now: 60000, Job: 5, Try: 3, Worker: 3, Term: 20}), []byte{100, 3, 234, 96, 5, 3, 3, 20, 162}},
		{of(9, api.Order{Kind: api.ODone, Now: 255, Job: 5, Try: 1, Worker: 3}), []byte{9, 4, 0, 255, 5, 1, 3, 0, 86}},
		{of(9, api.Order{Kind: api.ODrop, Now: 256, Job: 1, Try: 2}), []byte{9, 5, 1, 0, 1, 2, 0, 0, 40}},
		{of(3, api.Order{Kind: api.OTake, Now: 300, Term: 8}), []byte{3, 2, 1, 44, 0, 0, 0, 8, 0}},
		{of(2, api.Order{Kind: api.OTake, Now: 300, Term: 8}), []byte{2, 2, 1, 44, 0, 0, 0, 8, 250}},
		{of(1, api.Order{Kind: api.OTake, Now: 1000, Worker: 3, Term: 5}), []byte{1, 2, 3, 232, 0, 0, 3, 5, 0}},
		{of(3, api.Order{Kind: api.OTake, Now: 60000, Term: 20}), []byte{3, 2, 234, 96, 0, 0, 0, 20, 250}},
	}
}

// summed lays the sum behind bytes, reckoned another way than in the program:
// each byte is counted anew from each place on.
func summed(b ...byte) []byte {
	n := 1
	for i := range b {
		for _, x := range b[i:] {
			n = (n + int(x)) % 251
		}
	}
	return append(slices.Clone(b), byte(n))
}

func wantBytes(t *testing.T, r api.Record, want []byte) {
	t.Helper()
	if got, code := codec.Encode(r); code != 0 || !bytes.Equal(got, want) {
		t.Errorf("Encode(%+v) = %v, %d, want %v", r, got, code, want)
	}
}

// wantNoBytes: the code alone is answered.
func wantNoBytes(t *testing.T, r api.Record, want int) {
	t.Helper()
	if got := codec.Check(r); got != want {
		t.Errorf("Check(%+v) = %d, want %d", r, got, want)
	}
	if b, code := codec.Encode(r); len(b) != 0 || code != want {
		t.Errorf("Encode(%+v) = %v, %d, want the code %d alone", r, b, code, want)
	}
}

func wantRecord(t *testing.T, b []byte, want api.Record) {
	t.Helper()
	ahead := slices.Clone(b)
	if got, code := codec.Decode(b); code != 0 || got != want {
		t.Errorf("Decode(%v) = %+v, %d, want %+v", ahead, got, code, want)
	}
	wantAsItWas(t, b, ahead)
}

// wantNoRecord: the code alone is answered.
func wantNoRecord(t *testing.T, b []byte, want int) {
	t.Helper()
	ahead := slices.Clone(b)
	if r, code := codec.Decode(b); code != want || r != (api.Record{}) {
		t.Errorf("Decode(%v) = %+v, %d, want the code %d alone", ahead, r, code, want)
	}
	wantAsItWas(t, b, ahead)
}

func wantAll(t *testing.T, b []byte, want ...api.Record) {
	t.Helper()
	ahead := slices.Clone(b)
	if got := codec.All(b); !slices.Equal(got, want) {
		t.Errorf("All(%v) = %+v, want %+v", ahead, got, want)
	}
	wantAsItWas(t, b, ahead)
}

func wantAsItWas(t *testing.T, b, ahead []byte) {
	t.Helper()
	if !bytes.Equal(b, ahead) {
		t.Errorf("%v were handed in, and became %v", ahead, b)
	}
}

func TestSize(t *testing.T) {
	if codec.Size != 9 {
		t.Errorf("Size is %d, want 9", codec.Size)
	}
}

func TestThereAndBack(t *testing.T) {
	for _, p := range pairs() {
		if got := codec.Check(p.record); got != 0 {
			t.Errorf("Check(%+v) = %d, want 0", p.record, got)
		}
		wantBytes(t, p.record, p.bytes)
		wantRecord(t, p.bytes, p.record)
	}
}

// orders are all that have no code, at a time.
func orders(now int) []api.Order {
	var all []api.Order
	for job := range api.MaxJobs {
		all = append(all, api.Order{Kind: api.OAdd, Now: now, Job: job})
	}
	for worker := range api.Workers {
		for term := 1; term <= api.MaxTerm; term++ {
			all = append(all, api.Order{Kind: api.OTake, Now: now, Worker: worker, Term: term})
		}
		for job := range api.MaxJobs {
			for try := 1; try <= api.MaxTries; try++ {
				held := api.Order{Now: now, Job: job, Try: try, Worker: worker}
				for _, held.Kind = range []int{api.ODone, api.ODrop} {
					all = append(all, held)
				}
				held.Kind = api.ORenew
				for held.Term = 1; held.Term <= api.MaxTerm; held.Term++ {
					all = append(all, held)
				}
			}
		}
	}
	return all
}

func bytesOf(r api.Record) []byte {
	o := r.Order
	return summed(byte(r.Epoch), byte(o.Kind), byte(o.Now/256), byte(o.Now%256), byte(o.Job), byte(o.Try), byte(o.Worker), byte(o.Term))
}

func wantThereAndBack(t *testing.T, r api.Record) {
	t.Helper()
	b := bytesOf(r)
	if got, code := codec.Encode(r); code != 0 || !bytes.Equal(got, b) {
		t.Fatalf("Encode(%+v) = %v, %d, want %v", r, got, code, b)
	}
	if got, code := codec.Decode(b); code != 0 || got != r {
		t.Fatalf("Decode(%v) = %+v, %d, want %+v", b, got, code, r)
	}
}

func TestAllOrdersOfAllEpochsThereAndBack(t *testing.T) {
	for _, now := range []int{0, 255, 256, api.MaxTime} {
		for _, o := range orders(now) {
			for epoch := 1; epoch <= api.MaxEpoch; epoch++ {
				wantThereAndBack(t, of(epoch, o))
			}
		}
	}
}

func TestAllTimesThereAndBack(t *testing.T) {
	for now := 0; now <= api.MaxTime; now++ {
		wantThereAndBack(t, of(1, api.Order{Kind: api.OAdd, Now: now}))
		wantThereAndBack(t, of(100, api.Order{Kind: api.ORenew, Now: now, Job: 5, Try: 3, Worker: 3, Term: 20}))
	}
}

func TestEpochOutOfRange(t *testing.T) {
	for _, epoch := range append([]int{0, 101, 102, 255, 256, 257, 356}, far...) {
		for _, p := range pairs() {
			wantNoBytes(t, of(epoch, p.record.Order), api.ErrRange)
		}
	}
}

// refused are orders that jobs.Check refuses, by each of its codes.
func refused() []api.Order {
	all := []api.Order{
		{}, {Kind: 6}, {Kind: 255}, {Kind: 257}, {Kind: -1},
		{Kind: api.OAdd, Try: 1}, {Kind: api.OAdd, Worker: 1}, {Kind: api.OAdd, Term: 1},
		{Kind: api.OTake, Job: 1, Term: 1}, {Kind: api.OTake, Try: 1, Term: 1},
		{Kind: api.ODone, Try: 1, Term: 1}, {Kind: api.ODrop, Try: 1, Term: 1},
		{Kind: api.OAdd, Now: -1}, {Kind: api.OAdd, Now: 60001}, {Kind: api.OAdd, Now: 65535}, {Kind: api.OAdd, Now: 65536},
		{Kind: api.OAdd, Job: 6}, {Kind: api.OAdd, Job: 256}, {Kind: api.OAdd, Job: -1},
		{Kind: api.OTake, Term: 0}, {Kind: api.OTake, Term: 21}, {Kind: api.OTake, Term: 257},
		{Kind: api.OTake, Worker: 4, Term: 1}, {Kind: api.OTake, Worker: 256, Term: 1},
		{Kind: api.ORenew, Term: 1}, {Kind: api.ORenew, Try: 4, Term: 1}, {Kind: api.ORenew, Try: 1},
		{Kind: api.ODone}, {Kind: api.ODone, Try: 257}, {Kind: api.ODrop}, {Kind: api.ODrop, Try: 4},
	}
	for _, n := range far {
		all = append(all, api.Order{Kind: n}, api.Order{Kind: api.OAdd, Now: n}, api.Order{Kind: api.OAdd, Job: n},
			api.Order{Kind: api.ODone, Try: n}, api.Order{Kind: api.OTake, Worker: n, Term: 1}, api.Order{Kind: api.OTake, Term: n},
			api.Order{Kind: api.OAdd, Term: n}, api.Order{Kind: n, Now: n, Job: n, Try: n, Worker: n, Term: n})
	}
	return all
}

func TestOrdersThatJobsRefuses(t *testing.T) {
	seen := map[int]int{}
	for _, o := range refused() {
		code := jobs.Check(o)
		seen[code]++
		for _, epoch := range []int{1, 2, 100} {
			wantNoBytes(t, of(epoch, o), code)
		}
	}
	for _, code := range []int{api.ErrKind, api.ErrForm, api.ErrRange} {
		if seen[code] == 0 {
			t.Errorf("no order has the code %d", code)
		}
	}
	if seen[0] != 0 {
		t.Errorf("%d orders have no code", seen[0])
	}
}

func TestTheEpochIsToldAheadOfTheOrder(t *testing.T) {
	for _, o := range refused() {
		for _, epoch := range []int{0, 101, -1, math.MinInt64, math.MaxInt64} {
			wantNoBytes(t, of(epoch, o), api.ErrRange)
		}
	}
}

func TestTooFewBytes(t *testing.T) {
	wantNoRecord(t, nil, api.ErrShort)
	wantNoRecord(t, []byte{}, api.ErrShort)
	for _, p := range pairs() {
		for n := range codec.Size {
			wantNoRecord(t, p.bytes[:n], api.ErrShort)
			wantNoRecord(t, slices.Clip(slices.Clone(p.bytes[:n])), api.ErrShort)
		}
	}
	wantNoRecord(t, []byte{0, 0, 0, 0, 0, 0, 0, 0}, api.ErrShort)
	wantNoRecord(t, []byte{255, 255, 255, 255, 255, 255, 255, 255}, api.ErrShort)
}

func TestWhatStandsBehindIsNotLookedAt(t *testing.T) {
	for _, p := range pairs() {
		for _, tail := range [][]byte{{0}, {255}, {1, 2, 3}, p.bytes, bytes.Repeat([]byte{7}, 30)} {
			wantRecord(t, slices.Concat(p.bytes, tail), p.record)
			wrong := slices.Concat(p.bytes, tail)
			wrong[codec.Size-1] ^= 1
			wantNoRecord(t, wrong, api.ErrForm)
		}
	}
}

func TestASumThatIsAnotherOne(t *testing.T) {
	for _, p := range pairs() {
		for n := range 256 {
			b := slices.Clone(p.bytes)
			b[codec.Size-1] = byte(n)
			if n != int(p.bytes[codec.Size-1]) {
				wantNoRecord(t, b, api.ErrForm)
			}
		}
	}
	wantNoRecord(t, make([]byte, codec.Size), api.ErrForm)
	wantNoRecord(t, bytes.Repeat([]byte{255}, codec.Size), api.ErrForm)
}

func TestAByteThatIsAnotherOne(t *testing.T) {
	for _, p := range pairs() {
		for i := range codec.Size - 1 {
			for n := range 256 {
				b := slices.Clone(p.bytes)
				b[i] = byte(n)
				if (n-int(p.bytes[i]))%251 != 0 {
					wantNoRecord(t, b, api.ErrForm)
				}
			}
		}
	}
}

func TestTwoBytesThatChangePlaces(t *testing.T) {
	b := []byte{2, 3, 0, 1, 2, 3, 1, 4, 80}
	b[2], b[3] = b[3], b[2]
	wantNoRecord(t, b, api.ErrForm)
}

func TestTheSumIsToldAheadOfTheRecord(t *testing.T) {
	for _, b := range [][]byte{{0, 1, 0, 0, 0, 0, 0, 0}, {101, 1, 0, 0, 0, 0, 0, 0}, {1, 9, 0, 0, 0, 0, 0, 0}, {1, 1, 255, 0, 0, 0, 0, 0}, {1, 1, 0, 0, 6, 0, 0, 0}} {
		right := summed(b...)
		wrong := slices.Clone(right)
		wrong[codec.Size-1]++
		wantNoRecord(t, wrong, api.ErrForm)
		if _, code := codec.Decode(right); code == api.ErrForm || code == 0 {
			t.Errorf("Decode(%v) tells %d", right, code)
		}
	}
}

func TestARightSumOfNoRecord(t *testing.T) {
	for _, x := range []struct {
		code  int
		bytes []byte
	}{
		{api.ErrRange, []byte{0, 1, 0, 0, 0, 0, 0, 0, 3}},
		{api.ErrRange, []byte{0, 0, 0, 0, 0, 0, 0, 0, 1}},
		{api.ErrRange, []byte{101, 1, 0, 0, 0, 0, 0, 0, 104}},
		{api.ErrRange, []byte{255, 9, 0, 0, 0, 0, 0, 0, 23}},
		{api.ErrKind, []byte{1, 0, 0, 0, 0, 0, 0, 0, 2}},
		{api.ErrKind, []byte{1, 6, 0, 0, 0, 0, 0, 0, 14}},
		{api.ErrKind, []byte{1, 9, 0, 0, 0, 0, 0, 0, 20}},
		{api.ErrKind, []byte{1, 255, 0, 0, 0, 0, 0, 0, 10}},
		{api.ErrForm, []byte{1, 1, 0, 0, 0, 1, 0, 0, 10}},
		{api.ErrForm, []byte{1, 1, 0, 0, 0, 0, 1, 0, 11}},
		{api.ErrForm, []byte{1, 1, 0, 0, 0, 0, 0, 1, 12}},
		{api.ErrForm, []byte{1, 2, 0, 0, 1, 0, 0, 1, 19}},
		{api.ErrRange, []byte{1, 1, 234, 97, 0, 0, 0, 0, 90}},
		{api.ErrRange, []byte{1, 1, 255, 255, 0, 0, 0, 0, 32}},
		{api.ErrRange, []byte{1, 1, 0, 0, 6, 0, 0, 0, 34}},
		{api.ErrRange, []byte{1, 2, 0, 0, 0, 0, 4, 1, 42}},
		{api.ErrRange, []byte{1, 2, 0, 0, 0, 0, 0, 0, 6}},
		{api.ErrRange, []byte{1, 2, 0, 0, 0, 0, 0, 21, 174}},
		{api.ErrRange, []byte{1, 4, 0, 0, 0, 0, 0, 0, 10}},
		{api.ErrRange, []byte{1, 4, 0, 0, 0, 4, 0, 0, 34}},
		{api.ErrForm, []byte{1, 1, 0, 0, 0, 0, 251, 0, 4}},
		{api.ErrRange, []byte{1, 1, 0, 0, 251, 0, 0, 0, 4}},
		{api.ErrRange, []byte{252, 1, 0, 0, 0, 0, 0, 0, 4}},
	} {
		if right := summed(x.bytes[:codec.Size-1]...); !bytes.Equal(x.bytes, right) {
			t.Fatalf("the sum of %v is %d", x.bytes, right[codec.Size-1])
		}
		wantNoRecord(t, x.bytes, x.code)
		wantNoRecord(t, append(slices.Clone(x.bytes), 1, 2, 3), x.code)
	}
}

func TestWhatLiesBehindTheLengthIsNeitherReadNorWritten(t *testing.T) {
	whole := []byte{1, 1, 0, 0, 0, 0, 0, 0, 4, 1, 1, 0, 0, 1, 0, 0, 0, 9}
	ahead := slices.Clone(whole)
	for n := range codec.Size {
		wantNoRecord(t, whole[:n], api.ErrShort)
		wantAll(t, whole[:n])
	}
	for n := codec.Size; n < 2*codec.Size; n++ {
		wantRecord(t, whole[:n], of(1, api.Order{Kind: api.OAdd}))
		wantAll(t, whole[:n], of(1, api.Order{Kind: api.OAdd}))
	}
	wantAsItWas(t, whole, ahead)
}

func TestEncodeAnswersNewMemory(t *testing.T) {
	p := pairs()[0]
	first, _ := codec.Encode(p.record)
	second, _ := codec.Encode(p.record)
	spoil(first)
	if !bytes.Equal(second, p.bytes) {
		t.Errorf("one answer was written to, and another one became %v", second)
	}
	wantBytes(t, p.record, p.bytes)
}

// spoil writes to all memory that a list has, behind its length too.
func spoil(b []byte) {
	b = b[:cap(b)]
	for i := range b {
		b[i] = 99
	}
}
