package disk_test

import (
	"math"
	"slices"
	"testing"

	"vergers/api"
	"vergers/disk"
)

// dice answers numbers that look thrown, the same ones of each seed.
type dice uint64

func (d *dice) throw(n int) int {
	*d = *d*6364136223846793005 + 1442695040888963407
	return int(uint64(*d)>>33) % n
}

// plain is what a disk ought to be.
type plain struct {
	epoch int
	bytes []byte
}

func (p *plain) raise() (int, int) {
	if p.epoch == api.MaxEpoch {
		return 0, api.ErrFull
	}
	p.epoch++
	return p.epoch, 0
}

func (p *plain) appended(epoch int, b []byte) int {
	switch all := slices.Concat(p.bytes, b); {
	case epoch <= 0, epoch != p.epoch:
		return api.ErrFenced
	case len(all) > api.MaxBytes:
		return api.ErrFull
	default:
		p.bytes = all
		return 0
	}
}

func (p *plain) cut(epoch, n int) int {
	switch {
	case epoch <= 0, epoch != p.epoch:
		return api.ErrFenced
	case n < 0, len(p.bytes) < n:
		return api.ErrRange
	default:
		p.bytes = slices.Clone(p.bytes[:n])
		return 0
	}
}

// near answers a number that is mostly n, or one near it.
func near(d *dice, n int) int {
	switch d.throw(12) {
	case 0:
		return n - 1
	case 1:
		return n + 1
	case 2:
		return 0
	case 3:
		return []int{math.MinInt64, -1, math.MaxInt64}[d.throw(3)]
	}
	return n
}

// callBoth makes one call of both, and answers its code.
func callBoth(t *testing.T, d *dice, x *disk.Disk, want *plain) int {
	t.Helper()
	epoch := near(d, x.Epoch())
	switch d.throw(7) {
	case 0, 1:
		e, code := want.raise()
		wantRaise(t, x, e, code)
		return code
	case 2:
		n := near(d, d.throw(len(want.bytes)+1))
		code := want.cut(epoch, n)
		wantCut(t, x, epoch, n, code)
		return code
	}
	b := numbered(d.throw([]int{2, 10, 400, 1600}[d.throw(4)]))
	code := want.appended(epoch, b)
	wantAppend(t, x, epoch, b, code)
	spoil(b)
	return code
}

func TestWalksOfThrownCalls(t *testing.T) {
	var seen [api.ErrFenced + 1]int
	for seed := range 200 {
		d := dice(seed)
		x, want := disk.New(), &plain{}
		for range 300 {
			seen[callBoth(t, &d, x, want)]++
			wantDisk(t, x, want.epoch, want.bytes)
			spoil(x.Bytes())
		}
	}
	for _, code := range []int{0, api.ErrRange, api.ErrFull, api.ErrFenced} {
		if seen[code] == 0 {
			t.Errorf("no call had the code %d", code)
		}
	}
}
