package codec_test

import (
	"bytes"
	"slices"
	"testing"

	"vergers/api"
	"vergers/codec"
)

// row has a record of each epoch that is named.
func row(epochs ...int) []api.Record {
	var all []api.Record
	for i, epoch := range epochs {
		all = append(all, of(epoch, api.Order{Kind: api.OAdd, Now: 250 + i, Job: i % api.MaxJobs}))
	}
	return all
}

func joined(t *testing.T, records ...api.Record) []byte {
	t.Helper()
	var all []byte
	for _, r := range records {
		b, code := codec.Encode(r)
		if code != 0 || len(b) != codec.Size {
			t.Fatalf("Encode(%+v) = %v, %d", r, b, code)
		}
		all = append(all, b...)
	}
	return all
}

func TestAllOfNothing(t *testing.T) {
	wantAll(t, nil)
	wantAll(t, []byte{})
}

func TestAllOfEachRecordAlone(t *testing.T) {
	for _, p := range pairs() {
		wantAll(t, p.bytes, p.record)
	}
}

func TestAllWhereEpochsAreEqualOrRise(t *testing.T) {
	for _, epochs := range [][]int{{1}, {100}, {1, 1}, {100, 100, 100}, {1, 2}, {1, 100}, {1, 1, 2, 2, 2, 7, 100, 100}, {3, 4, 5, 6}} {
		all := row(epochs...)
		wantAll(t, joined(t, all...), all...)
	}
}

func TestAllEndsWhereAnEpochFalls(t *testing.T) {
	for _, x := range []struct {
		epochs []int
		whole  int
	}{
		{[]int{2, 1}, 1}, {[]int{100, 99, 100}, 1}, {[]int{1, 2, 1}, 2}, {[]int{1, 5, 5, 4, 5, 6}, 3},
		{[]int{2, 2, 1, 2}, 2}, {[]int{1, 100, 1, 100}, 2}, {[]int{3, 5, 4}, 2}, {[]int{5, 1, 1, 1}, 1},
	} {
		all := row(x.epochs...)
		wantAll(t, joined(t, all...), all[:x.whole]...)
	}
}

func TestAllOfEachBeginning(t *testing.T) {
	all := row(1, 2, 2, 9)
	b := joined(t, all...)
	for n := range len(b) + 1 {
		wantAll(t, b[:n], all[:n/codec.Size]...)
		wantAll(t, slices.Clip(slices.Clone(b[:n])), all[:n/codec.Size]...)
	}
}

func TestAllOfBytesThatBeginWithNoRecord(t *testing.T) {
	b := joined(t, row(1, 2, 3)...)
	for _, head := range [][]byte{{0}, {1}, {255, 255}, make([]byte, codec.Size), summed(1, 9, 0, 0, 0, 0, 0, 0), summed(0, 1, 0, 0, 0, 0, 0, 0)} {
		wantAll(t, slices.Concat(head, b))
	}
	b[codec.Size-1] ^= 1
	wantAll(t, b)
}

func TestAllWithSomethingElseBetweenTwoRecords(t *testing.T) {
	all := row(1, 1, 2, 3)
	for n := range len(all) {
		head, tail := joined(t, all[:n]...), joined(t, all[n:]...)
		for _, between := range [][]byte{
			{0}, {3}, {1, 1, 0, 0, 0, 0, 0, 0}, make([]byte, codec.Size), bytes.Repeat([]byte{255}, codec.Size),
			{3, 1, 0, 0, 0, 0, 0, 0, 5}, summed(0, 1, 0, 0, 0, 0, 0, 0), summed(101, 1, 0, 0, 0, 0, 0, 0),
			summed(3, 0, 0, 0, 0, 0, 0, 0), summed(3, 1, 0, 0, 0, 1, 0, 0), summed(3, 1, 234, 97, 0, 0, 0, 0), summed(3, 1, 0, 0, 6, 0, 0, 0),
		} {
			wantAll(t, slices.Concat(head, between, tail), all[:n]...)
		}
	}
}

func TestAllWithOneByteTurned(t *testing.T) {
	all := row(1, 2, 2, 3)
	for i := range len(all) * codec.Size {
		b := joined(t, all...)
		b[i] ^= 1
		wantAll(t, b, all[:i/codec.Size]...)
	}
}

func TestAllOfMany(t *testing.T) {
	var all []api.Record
	for i := range 5000 {
		all = append(all, of(1+i/50, api.Order{Kind: api.OTake, Now: i * 12, Worker: i % 4, Term: 1 + i%20}))
	}
	b := joined(t, all...)
	wantAll(t, b, all...)
	wantAll(t, append(b, b...), all...)
}

func TestAllAnswersNewMemory(t *testing.T) {
	all := row(1, 2, 3)
	b := joined(t, all...)
	first, second := codec.All(b), codec.All(b)
	first = first[:cap(first)]
	for i := range first {
		first[i] = api.Record{Epoch: 77}
	}
	if !slices.Equal(second, all) {
		t.Errorf("one answer was written to, and another one became %+v", second)
	}
	spoil(b)
	if !slices.Equal(second, all) {
		t.Errorf("the bytes were written to, and the answer became %+v", second)
	}
}

// dice answers numbers that look thrown, the same ones of each seed.
type dice uint64

func (d *dice) throw(n int) int {
	*d = *d*6364136223846793005 + 1442695040888963407
	return int(uint64(*d)>>33) % n
}

// throwBytes makes bytes that are small mostly, so that many are nearly
// records, and gives many of them their right sum.
func throwBytes(d *dice) []byte {
	b := make([]byte, codec.Size-1)
	for i := range b {
		b[i] = byte(d.throw([]int{2, 4, 7, 256}[d.throw(4)]))
	}
	b = summed(b...)
	if d.throw(8) == 0 {
		b[d.throw(len(b))] = byte(d.throw(256))
	}
	if d.throw(8) == 0 {
		b = b[:d.throw(len(b)+1)]
	}
	return b
}

// wantCodeOf: what must hold of all bytes, whatever they are.
func wantCodeOf(t *testing.T, b []byte) int {
	t.Helper()
	ahead := slices.Clone(b)
	r, code := codec.Decode(b)
	wantAsItWas(t, b, ahead)
	want := api.ErrShort
	if len(b) >= codec.Size {
		want = api.ErrForm
		if bytes.Equal(summed(b[:codec.Size-1]...), b[:codec.Size]) {
			want = codec.Check(of(int(b[0]), api.Order{Kind: int(b[1]), Now: int(b[2])*256 + int(b[3]), Job: int(b[4]), Try: int(b[5]), Worker: int(b[6]), Term: int(b[7])}))
		}
	}
	if code != want || code != 0 && r != (api.Record{}) {
		t.Fatalf("Decode(%v) = %+v, %d, want the code %d", b, r, code, want)
	}
	if code == 0 {
		wantBytes(t, r, b[:codec.Size])
	}
	return code
}

func TestDecodeOfThrownBytes(t *testing.T) {
	d := dice(1)
	var seen [api.ErrShort + 1]int
	for range 200000 {
		seen[wantCodeOf(t, throwBytes(&d))]++
	}
	for _, code := range []int{0, api.ErrKind, api.ErrForm, api.ErrRange, api.ErrShort} {
		if seen[code] == 0 {
			t.Errorf("no bytes had the code %d", code)
		}
	}
}

// slowAll says the promise by numbers of records: the most that can be read
// whole, none of them below the one ahead.
func slowAll(b []byte) []api.Record {
	var all []api.Record
	for n := 0; n*codec.Size <= len(b); n++ {
		r, code := codec.Decode(b[n*codec.Size:])
		if code != 0 || n > 0 && all[n-1].Epoch > r.Epoch {
			break
		}
		all = append(all, r)
	}
	return all
}

func TestAllOfThrownBytes(t *testing.T) {
	d := dice(2)
	longest := 0
	for range 20000 {
		var b []byte
		epoch := 1
		for range d.throw(8) {
			epoch = min(max(epoch+d.throw(4)-d.throw(2), 1), api.MaxEpoch)
			b = append(b, joined(t, of(epoch, api.Order{Kind: api.OAdd, Now: d.throw(60001), Job: d.throw(6)}))...)
			if d.throw(9) == 0 {
				b = append(b, throwBytes(&d)...)
			}
		}
		want := slowAll(b)
		wantAll(t, b, want...)
		longest = max(longest, len(want))
	}
	if longest < 5 {
		t.Errorf("the longest row had %d records", longest)
	}
}

func FuzzDecode(f *testing.F) {
	for _, p := range pairs() {
		f.Add(p.bytes)
	}
	f.Fuzz(func(t *testing.T, b []byte) {
		wantCodeOf(t, b)
		wantAll(t, b, slowAll(b)...)
	})
}
