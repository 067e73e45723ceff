package jobs_test

import (
	"math"
	"testing"

	"vergers/api"
	"vergers/jobs"
)

// far are numbers that are in nobody's range.
var far = []int{math.MinInt64, math.MinInt64 + 1, -1 << 32, -256, -1, 1 << 16, 1 << 32, 1<<32 + 1, math.MaxInt64 - 1, math.MaxInt64}

// sound has an order of each kind that has no code, each number it has not at 0.
var sound = []api.Order{
	{Kind: api.OAdd, Now: 7, Job: 2},
	{Kind: api.OTake, Now: 7, Worker: 2, Term: 5},
	{Kind: api.ORenew, Now: 7, Job: 2, Try: 2, Worker: 2, Term: 5},
	{Kind: api.ODone, Now: 7, Job: 2, Try: 2, Worker: 2},
	{Kind: api.ODrop, Now: 7, Job: 2, Try: 2, Worker: 2},
}

// part is a number of an order: which kinds have it, and its range.
type part struct {
	name      string
	of        func(o *api.Order) *int
	kinds     []int
	low, high int
}

func partList() []part {
	return []part{
		{"Now", func(o *api.Order) *int { return &o.Now }, []int{api.OAdd, api.OTake, api.ORenew, api.ODone, api.ODrop}, 0, 60000},
		{"Job", func(o *api.Order) *int { return &o.Job }, []int{api.OAdd, api.ORenew, api.ODone, api.ODrop}, 0, 5},
		{"Try", func(o *api.Order) *int { return &o.Try }, []int{api.ORenew, api.ODone, api.ODrop}, 1, 3},
		{"Worker", func(o *api.Order) *int { return &o.Worker }, []int{api.OTake, api.ORenew, api.ODone, api.ODrop}, 0, 3},
		{"Term", func(o *api.Order) *int { return &o.Term }, []int{api.OTake, api.ORenew}, 1, 20},
	}
}

func (p part) isOf(kind int) bool {
	for _, k := range p.kinds {
		if k == kind {
			return true
		}
	}
	return false
}

func (p part) set(o api.Order, n int) api.Order {
	*p.of(&o) = n
	return o
}

func wantCheck(t *testing.T, o api.Order, want int) {
	t.Helper()
	if got := jobs.Check(o); got != want {
		t.Errorf("Check(%+v) = %d, want %d", o, got, want)
	}
}

func TestCheckLetsEachKindThrough(t *testing.T) {
	for _, o := range sound {
		wantCheck(t, o, 0)
	}
}

func TestCheckOfNoSuchKind(t *testing.T) {
	for _, kind := range append([]int{0, 6, 7}, far...) {
		wantCheck(t, api.Order{Kind: kind}, api.ErrKind)
		for _, o := range sound {
			o.Kind = kind
			wantCheck(t, o, api.ErrKind)
		}
		wantCheck(t, api.Order{Kind: kind, Now: -1, Job: -1, Try: -1, Worker: -1, Term: -1}, api.ErrKind)
	}
}

func TestCheckOfWhatTheKindHasNot(t *testing.T) {
	for _, o := range sound {
		for _, p := range partList() {
			if p.isOf(o.Kind) {
				continue
			}
			for _, n := range append([]int{1, 2, 3}, far...) {
				wantCheck(t, p.set(o, n), api.ErrForm)
			}
		}
	}
}

func TestCheckOfRanges(t *testing.T) {
	for _, o := range sound {
		for _, p := range partList() {
			if !p.isOf(o.Kind) {
				continue
			}
			for n := p.low; n <= p.high; n++ {
				wantCheck(t, p.set(o, n), 0)
			}
			for _, n := range append([]int{p.low - 1, p.high + 1, math.MinInt64, math.MaxInt64}, far...) {
				if n < p.low || n > p.high {
					wantCheck(t, p.set(o, n), api.ErrRange)
				}
			}
		}
	}
}

func TestCheckTellsFormAheadOfRange(t *testing.T) {
	for _, o := range sound {
		for _, hasNot := range partList() {
			for _, has := range partList() {
				if !hasNot.isOf(o.Kind) && has.isOf(o.Kind) {
					wantCheck(t, has.set(hasNot.set(o, 1), -1), api.ErrForm)
					wantCheck(t, has.set(hasNot.set(o, math.MaxInt64), math.MaxInt64), api.ErrForm)
				}
			}
		}
	}
}

func TestCheckOfAllEdgesAtOnce(t *testing.T) {
	for _, o := range sound {
		for mask := 0; mask < 1<<5; mask++ {
			edge := o
			for i, p := range partList() {
				if !p.isOf(o.Kind) {
					continue
				}
				edge = p.set(edge, p.low)
				if mask&(1<<i) != 0 {
					edge = p.set(edge, p.high)
				}
			}
			wantCheck(t, edge, 0)
		}
	}
}
