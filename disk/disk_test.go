package disk_test

import (
	"bytes"
	"math"
	"slices"
	"testing"

	"vergers/api"
	"vergers/disk"
)

// far are numbers that are in nobody's range, some of them like small ones in
// their last bytes.
var far = []int{math.MinInt64, math.MinInt64 + 1, -1<<32 + 1, -1 << 32, -256, -255, -1, api.MaxBytes + 1, 1<<16 + 1, 1 << 32, 1<<32 + 1, 1<<32 + 2, math.MaxInt64 - 1, math.MaxInt64}

// raised answers a disk of an epoch, with bytes that its writer appended.
func raised(t *testing.T, epoch int, b string) *disk.Disk {
	t.Helper()
	d := disk.New()
	for n := range epoch {
		wantRaise(t, d, n+1, 0)
	}
	if b != "" {
		wantAppend(t, d, epoch, []byte(b), 0)
	}
	wantDisk(t, d, epoch, []byte(b))
	return d
}

// numbered answers n bytes, each unlike those around it.
func numbered(n int) []byte {
	b := make([]byte, n)
	for i := range b {
		b[i] = byte(i*7 + i/256)
	}
	return b
}

func wantDisk(t *testing.T, d *disk.Disk, epoch int, b []byte) {
	t.Helper()
	if d.Epoch() != epoch || !bytes.Equal(d.Bytes(), b) {
		t.Fatalf("the disk is of %d with %v, want %d with %v", d.Epoch(), d.Bytes(), epoch, b)
	}
}

func wantRaise(t *testing.T, d *disk.Disk, epoch, code int) {
	t.Helper()
	if e, c := d.Raise(); e != epoch || c != code {
		t.Fatalf("Raise = %d, %d, want %d, %d", e, c, epoch, code)
	}
}

func wantAppend(t *testing.T, d *disk.Disk, epoch int, b []byte, code int) {
	t.Helper()
	if c := d.Append(epoch, b); c != code {
		t.Fatalf("Append(%d, %d bytes) = %d, want %d", epoch, len(b), c, code)
	}
}

func wantCut(t *testing.T, d *disk.Disk, epoch, n, code int) {
	t.Helper()
	if c := d.Cut(epoch, n); c != code {
		t.Fatalf("Cut(%d, %d) = %d, want %d", epoch, n, c, code)
	}
}

// spoil turns all bytes, those behind the length too.
func spoil(b []byte) {
	b = b[:cap(b)]
	for i := range b {
		b[i] ^= 255
	}
}

func TestANewDiskIsEmptyAndNobodysToWrite(t *testing.T) {
	d := disk.New()
	wantDisk(t, d, 0, nil)
	for _, epoch := range append([]int{0, 1, 2, api.MaxEpoch}, far...) {
		for _, b := range [][]byte{nil, {}, {1}, make([]byte, api.MaxBytes), make([]byte, api.MaxBytes+1)} {
			wantAppend(t, d, epoch, b, api.ErrFenced)
		}
		for _, n := range append([]int{0, 1}, far...) {
			wantCut(t, d, epoch, n, api.ErrFenced)
		}
	}
	wantDisk(t, d, 0, nil)
}

func TestTwoNewDisksAreTwo(t *testing.T) {
	one, other := disk.New(), disk.New()
	wantRaise(t, one, 1, 0)
	wantAppend(t, one, 1, []byte("abc"), 0)
	wantDisk(t, other, 0, nil)
	wantRaise(t, other, 1, 0)
	wantAppend(t, other, 1, []byte("xyz"), 0)
	wantCut(t, other, 1, 1, 0)
	wantDisk(t, one, 1, []byte("abc"))
	wantDisk(t, other, 1, []byte("x"))
}

func TestRaiseIsOneMoreTillMaxEpoch(t *testing.T) {
	d := disk.New()
	var want []byte
	for epoch := 1; epoch <= api.MaxEpoch; epoch++ {
		wantRaise(t, d, epoch, 0)
		wantDisk(t, d, epoch, want)
		wantAppend(t, d, epoch, []byte{byte(epoch)}, 0)
		want = append(want, byte(epoch))
	}
	for range 3 {
		wantRaise(t, d, 0, api.ErrFull)
		wantDisk(t, d, api.MaxEpoch, want)
	}
	wantAppend(t, d, api.MaxEpoch+1, []byte{1}, api.ErrFenced)
	wantAppend(t, d, api.MaxEpoch, []byte{2}, 0)
	wantCut(t, d, api.MaxEpoch, 1, 0)
	wantDisk(t, d, api.MaxEpoch, []byte{1})
}

func TestAppendLaysBytesBehindAllOthers(t *testing.T) {
	d := raised(t, 1, "")
	var want []byte
	for _, b := range [][]byte{{0}, []byte("abc"), {255, 0, 255}, numbered(300), nil, {7}, {}, {0, 0}} {
		wantAppend(t, d, 1, b, 0)
		want = append(want, b...)
		wantDisk(t, d, 1, want)
	}
	wantRaise(t, d, 2, 0)
	wantAppend(t, d, 2, []byte("z"), 0)
	wantDisk(t, d, 2, append(want, 'z'))
}

func TestAppendOfItsOwnBytes(t *testing.T) {
	d := raised(t, 1, "abc")
	wantAppend(t, d, 1, d.Bytes(), 0)
	wantAppend(t, d, 1, d.Bytes()[2:4], 0)
	wantDisk(t, d, 1, []byte("abcabcca"))
}

func TestAppendUpToMaxBytes(t *testing.T) {
	for _, there := range []int{0, 1, 2, 9, 749, 750, 751, api.MaxBytes - 1, api.MaxBytes} {
		d := raised(t, 2, string(numbered(there)))
		for _, more := range []int{1, 2, 9, api.MaxBytes, 1 << 16, 1 << 20} {
			wantAppend(t, d, 2, make([]byte, api.MaxBytes-there+more), api.ErrFull)
			wantDisk(t, d, 2, numbered(there))
		}
		wantAppend(t, d, 2, numbered(api.MaxBytes)[there:], 0)
		wantDisk(t, d, 2, numbered(api.MaxBytes))
		wantAppend(t, d, 2, []byte{1}, api.ErrFull)
		wantAppend(t, d, 2, nil, 0)
		wantAppend(t, d, 2, []byte{}, 0)
		wantDisk(t, d, 2, numbered(api.MaxBytes))
	}
}

func TestAppendOfOneByteAfterAnother(t *testing.T) {
	d := raised(t, 1, "")
	all := numbered(api.MaxBytes)
	for n := range all {
		wantAppend(t, d, 1, all[n:n+1], 0)
	}
	wantAppend(t, d, 1, []byte{9}, api.ErrFull)
	wantDisk(t, d, 1, all)
}

func TestCutLetsTheFirstBytesStay(t *testing.T) {
	for n := range 6 {
		d := raised(t, 1, "abcde")
		wantCut(t, d, 1, n, 0)
		wantDisk(t, d, 1, []byte("abcde")[:n])
		wantCut(t, d, 1, n, 0)
		wantCut(t, d, 1, n+1, api.ErrRange)
		wantDisk(t, d, 1, []byte("abcde")[:n])
		wantAppend(t, d, 1, []byte("xy"), 0)
		wantDisk(t, d, 1, append([]byte("abcde")[:n:n], 'x', 'y'))
	}
}

func TestCutOfADiskWithoutBytes(t *testing.T) {
	d := raised(t, 1, "")
	wantCut(t, d, 1, 0, 0)
	wantCut(t, d, 1, 1, api.ErrRange)
	wantCut(t, d, 1, -1, api.ErrRange)
	wantDisk(t, d, 1, nil)
}

func TestCutOutOfRange(t *testing.T) {
	for _, there := range []int{0, 1, 5, api.MaxBytes} {
		d := raised(t, 3, string(numbered(there)))
		for _, n := range append([]int{there + 1, there + 2}, far...) {
			wantCut(t, d, 3, n, api.ErrRange)
			wantDisk(t, d, 3, numbered(there))
		}
	}
}

func TestCutMakesRoom(t *testing.T) {
	d := raised(t, 1, string(numbered(api.MaxBytes)))
	wantCut(t, d, 1, api.MaxBytes-3, 0)
	wantAppend(t, d, 1, []byte("abcd"), api.ErrFull)
	wantAppend(t, d, 1, []byte("abc"), 0)
	wantDisk(t, d, 1, append(numbered(api.MaxBytes)[:api.MaxBytes-3], "abc"...))
	wantCut(t, d, 1, 0, 0)
	wantAppend(t, d, 1, make([]byte, api.MaxBytes), 0)
	wantDisk(t, d, 1, make([]byte, api.MaxBytes))
}

func TestOnlyWhoIsOfTheEpochWrites(t *testing.T) {
	for _, epoch := range []int{1, 2, 3, 50, api.MaxEpoch - 1, api.MaxEpoch} {
		d := raised(t, epoch, "abc")
		others := append([]int{0, epoch - 1, epoch + 1, epoch + 256, epoch + 1<<32, -epoch}, far...)
		for other := range api.MaxEpoch + 2 {
			if other != epoch {
				others = append(others, other)
			}
		}
		for _, other := range others {
			for _, b := range [][]byte{nil, {}, []byte("x"), make([]byte, api.MaxBytes)} {
				wantAppend(t, d, other, b, api.ErrFenced)
			}
			for _, n := range []int{0, 2, 3, 4} {
				wantCut(t, d, other, n, api.ErrFenced)
			}
			wantDisk(t, d, epoch, []byte("abc"))
		}
	}
}

func TestFencedIsToldFirst(t *testing.T) {
	d := raised(t, 2, string(numbered(api.MaxBytes)))
	for _, epoch := range append([]int{0, 1, 3}, far...) {
		wantAppend(t, d, epoch, []byte{1}, api.ErrFenced)
		wantAppend(t, d, epoch, make([]byte, 1<<16), api.ErrFenced)
		for _, n := range far {
			wantCut(t, d, epoch, n, api.ErrFenced)
		}
	}
	wantDisk(t, d, 2, numbered(api.MaxBytes))
}

func TestRaiseFencesWhoWroteAndTheNextOneIsNotYet(t *testing.T) {
	d := raised(t, 1, "ab")
	wantAppend(t, d, 2, []byte("x"), api.ErrFenced)
	wantRaise(t, d, 2, 0)
	wantAppend(t, d, 1, []byte("x"), api.ErrFenced)
	wantCut(t, d, 1, 0, api.ErrFenced)
	wantCut(t, d, 3, 0, api.ErrFenced)
	wantDisk(t, d, 2, []byte("ab"))
	wantCut(t, d, 2, 1, 0)
	wantAppend(t, d, 2, []byte("c"), 0)
	wantDisk(t, d, 2, []byte("ac"))
}

func TestBytesHandedInAreNeitherChangedNorKept(t *testing.T) {
	for _, there := range []string{"", "ab"} {
		d := raised(t, 1, there)
		room := []byte("0123456789")
		b := room[2:5]
		wantAppend(t, d, 1, b, 0)
		want := append([]byte(there), "234"...)
		spoil(room)
		wantDisk(t, d, 1, want)
		spoil(room)
		wantAppend(t, d, 1, []byte("xyz"), 0)
		wantCut(t, d, 1, 1, 0)
		wantAppend(t, d, 1, []byte("vwxyz"), 0)
		wantAppend(t, d, 2, b, api.ErrFenced)
		if string(room) != "0123456789" {
			t.Errorf("the bytes that were handed in became %q", room)
		}
	}
}

func TestBytesHandedInStayBehindACode(t *testing.T) {
	d := raised(t, 1, "ab")
	b := numbered(api.MaxBytes)
	wantAppend(t, d, 1, b, api.ErrFull)
	wantAppend(t, d, 0, b[:3], api.ErrFenced)
	if !bytes.Equal(b, numbered(api.MaxBytes)) {
		t.Errorf("the bytes that were handed in were changed")
	}
	spoil(b)
	wantDisk(t, d, 1, []byte("ab"))
}

func TestBytesAnsweredAreNewMemory(t *testing.T) {
	d := raised(t, 1, "")
	wantAppend(t, d, 1, numbered(100), 0)
	wantCut(t, d, 1, 50, 0)
	first, second := d.Bytes(), d.Bytes()
	spoil(first)
	wantDisk(t, d, 1, numbered(50))
	if !bytes.Equal(second, numbered(50)) {
		t.Errorf("one answer was turned, and another one became %v", second)
	}
	_ = append(d.Bytes(), "never of the disk"...)
	wantAppend(t, d, 1, numbered(60)[50:], 0)
	wantDisk(t, d, 1, numbered(60))
	wantCut(t, d, 1, 0, 0)
	wantAppend(t, d, 1, make([]byte, 100), 0)
	if !bytes.Equal(second, numbered(50)) {
		t.Errorf("the disk was written to, and an answer became %v", second)
	}
}

func TestBytesCutOffDoNotComeBack(t *testing.T) {
	d := raised(t, 1, "abcdef")
	wantCut(t, d, 1, 2, 0)
	wantCut(t, d, 1, 3, api.ErrRange)
	wantRaise(t, d, 2, 0)
	wantCut(t, d, 2, 6, api.ErrRange)
	wantDisk(t, d, 2, []byte("ab"))
	wantAppend(t, d, 2, slices.Repeat([]byte{0}, 4), 0)
	wantDisk(t, d, 2, []byte("ab\x00\x00\x00\x00"))
}
