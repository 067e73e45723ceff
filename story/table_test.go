package story_test

import (
	"slices"
	"testing"

	"vergers/api"
	"vergers/codec"
	"vergers/story"
)

func TestTableBehindEachRecord(t *testing.T) {
	all := tale()
	b := bytesOf(t, all)
	wantTable(t, b, 0, told{})
	wantTable(t, b, len(all), ends())
	var records []api.Record
	for n, e := range all {
		wantTable(t, b, n, tell(after(records)))
		records = append(records, e.Record)
	}
}

// Refused records count among the first n, and change nothing.
func TestTableCountsRefusedRecords(t *testing.T) {
	b := bytesOf(t, tale())
	wantTable(t, b, 1, told{})
	wantTable(t, b, 2, told{})
	want := told{}
	want.jobs[4] = waiting(0)
	wantTable(t, b, 3, want)
	want.now, want.jobs[2] = 1, waiting(0)
	wantTable(t, b, 4, want)
	wantTable(t, b, 5, want)
}

func TestNoTableWhereThereAreNotAsMany(t *testing.T) {
	for _, l := range [][]story.Event{nil, tale()[:1], tale()[:2], tale()} {
		b := bytesOf(t, l)
		wantTable(t, b, 0, told{})
		story.Table(b, len(l)).Job(0)
		for _, n := range append([]int{len(l) + 1, len(l) + 2, len(b) + 1, -2, -len(l) - 1}, far...) {
			wantNoTable(t, b, n)
		}
	}
}

func TestTableOfNoBytes(t *testing.T) {
	for _, b := range [][]byte{nil, {}, {1}, make([]byte, 50)} {
		wantTable(t, b, 0, told{})
		wantNoTable(t, b, 1)
		wantNoTable(t, b, -1)
	}
}

// What stands where codec.All ends is no record, whatever stands behind it.
func TestTableCountsTheRecordsOfAll(t *testing.T) {
	all := tale()
	b := bytesOf(t, all)
	for n := range len(b) + 1 {
		whole := n / codec.Size
		if story.Table(b[:n], whole) == nil {
			t.Fatalf("of %d bytes there is no table behind %d records", n, whole)
		}
		wantNoTable(t, b[:n], whole+1)
	}
	for i := range all {
		turned := slices.Clone(b)
		turned[i*codec.Size+8] ^= 1
		if story.Table(turned, i) == nil {
			t.Fatalf("the byte turned stands behind %d records: no table of these", i)
		}
		wantNoTable(t, turned, i+1)
	}
	wantTable(t, slices.Concat(b, b), len(all), ends())
	wantNoTable(t, slices.Concat(b, b), len(all)+1)
}

func TestTablesAreTheirOwn(t *testing.T) {
	b := bytesOf(t, tale())
	first, second := story.Table(b, 3), story.Table(b, 3)
	if a := first.Do(at(50, take(1, 5))); a != (api.Answer{Job: 4, Try: 1}) {
		t.Fatalf("the table answers %+v", a)
	}
	want := told{}
	want.jobs[4] = waiting(0)
	if tell(second) != want {
		t.Errorf("one table was given an order, and another one became %+v", tell(second))
	}
	wantTable(t, b, 3, want)
	clear(b)
	if tell(second) != want {
		t.Errorf("the bytes were written to, and the table became %+v", tell(second))
	}
	wantTable(t, nil, 0, told{})
}
