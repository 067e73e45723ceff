package desk_test

import (
	"fmt"
	"slices"
	"strings"
	"testing"

	"vergers/api"
	"vergers/codec"
	"vergers/desk"
)

func TestANewDeskHasANewGuild(t *testing.T) {
	for _, x := range []said{
		{"disk", "disk 0 0 0"}, {"log", "end"}, {"holders 0", "holders"}, {"holders 5", "holders"},
		{"job 0 0", "no 5"}, {"job 2 5", "no 5"}, {"down 0", "no 5"}, {"down 2", "no 5"},
		{"add 0 0", "no 5"}, {"take 0 0 1", "no 5"}, {"renew 0 0 1 0 1", "no 5"}, {"done 0 0 1 0", "no 5"}, {"drop 0 0 1 0", "no 5"},
		{"tear 9 add 0 0", "no 5"}, {"tear 9 take 0 0 1", "no 5"},
	} {
		wantNothingDone(t, nil, x.line, x.told)
	}
	wantSaid(t, desk.New(), said{"open 0", "ok"}, said{"disk", "disk 1 0 0"})
	wantSaid(t, desk.New(), said{"tick 7", "ok"}, said{"disk", "disk 0 0 7"})
}

func TestEachLineOnItsOwn(t *testing.T) {
	wantSaid(t, desk.New(), whole()...)
}

func TestSeveralLinesInOneDo(t *testing.T) {
	all := whole()
	if told := done(t, desk.New(), linesOf(all)...); told != textOf(all) {
		t.Fatalf("it tells\n%s, want\n%s", told, textOf(all))
	}
}

func TestTwoDoTellWhatOneOfBothTells(t *testing.T) {
	all := whole()
	for n := range len(all) + 1 {
		d := desk.New()
		for _, part := range [][]said{all[:n], nil, all[n:]} {
			if told := done(t, d, linesOf(part)...); told != textOf(part) {
				t.Fatalf("parted at %d it tells\n%s, want\n%s", n, told, textOf(part))
			}
		}
	}
}

func TestDesksKnowNothingOfEachOther(t *testing.T) {
	one, other := desk.New(), desk.New()
	for _, x := range whole() {
		wantSaid(t, one, x)
		wantSaid(t, other, said{"disk", "disk 0 0 0"}, said{"job 1 2", "no 5"})
	}
	wantSaid(t, other, whole()...)
	wantSaid(t, desk.New(), whole()...)
	wantSaid(t, one, said{"disk", "disk 4 90 303"})
}

func TestWhatWasToldStaysAsItWas(t *testing.T) {
	d := desk.New()
	var told, was []string
	for range 3 {
		for _, x := range append(whole(), said{"open 0", ""}, said{"log", ""}) {
			text := done(t, d, x.line, "disk")
			told, was = append(told, text), append(was, strings.Clone(text))
		}
	}
	if !slices.Equal(told, was) {
		t.Errorf("it became %q, it was %q", told, was)
	}
}

func TestStepsAreOkOrNo(t *testing.T) {
	for _, x := range []said{
		{"open 0", "ok"}, {"open 1", "ok"}, {"open 2", "ok"}, {"open 3", "no 3"}, {"open -1", "no 3"},
		{"down 0", "ok"}, {"down 1", "ok"}, {"down 2", "no 5"}, {"down 3", "no 5"}, {"down -1", "no 5"},
		{"tick 0", "ok"}, {"tick 59998", "ok"}, {"tick 59999", "no 3"}, {"tick 60000", "no 3"}, {"tick -1", "no 3"},
	} {
		wantSaid(t, behind(t, "open 1", "tick 2", "open 0"), x)
	}
}

func TestDownLetsThatNodeGoDown(t *testing.T) {
	d := behind(t, "open 0", "add 0 1", "open 1", "down 1")
	wantSaid(t, d, said{"add 1 2", "no 10"}, said{"add 0 2", "no 9"}, said{"disk", "disk 2 9 0"}, said{"down 1", "ok"})
	d = behind(t, "open 0", "open 1", "down 0")
	wantSaid(t, d, said{"add 0 2", "no 10"}, said{"add 1 2", "ok"})
}

// holding are lines behind which node 1 serves, node 0 was fenced and node 2
// never opened; at 6 job 1 is held by worker 2 as try 1 till 9, and job 2
// waits.
var holding = []string{"open 0", "add 0 1", "open 1", "add 1 2", "tick 4", "take 1 2 5", "tick 2"}

// refused are orders that the table refuses, behind holding, by code.
var refused = []said{
	{"add 1 6", "no 3"}, {"add 1 -1", "no 3"}, {"take 1 4 5", "no 3"}, {"take 1 -1 5", "no 3"},
	{"take 1 0 0", "no 3"}, {"take 1 0 -1", "no 3"}, {"take 1 0 21", "no 3"},
	{"renew 1 6 1 2 5", "no 3"}, {"renew 1 1 0 2 5", "no 3"}, {"renew 1 1 4 2 5", "no 3"}, {"renew 1 1 1 4 5", "no 3"}, {"renew 1 1 1 2 21", "no 3"},
	{"done 1 6 1 2", "no 3"}, {"done 1 1 0 2", "no 3"}, {"done 1 1 1 4", "no 3"},
	{"drop 1 -1 1 2", "no 3"}, {"drop 1 1 -1 2", "no 3"}, {"drop 1 1 1 -1", "no 3"},
	{"add 1 1", "no 4"}, {"add 1 2", "no 4"},
	{"renew 1 3 1 2 5", "no 5"}, {"done 1 0 1 2", "no 5"}, {"drop 1 5 1 2", "no 5"},
	{"add 2 3", "no 5"}, {"take 2 0 5", "no 5"}, {"renew 2 1 1 2 5", "no 5"}, {"done 2 1 1 2", "no 5"}, {"drop 2 1 1 2", "no 5"},
	{"add 3 3", "no 5"}, {"take -1 0 5", "no 5"},
	{"renew 1 1 2 2 5", "no 6"}, {"renew 1 1 1 3 5", "no 6"}, {"done 1 1 1 0", "no 6"}, {"done 1 2 1 2", "no 6"}, {"drop 1 1 3 2", "no 6"},
}

func TestOrdersThatAreRefused(t *testing.T) {
	for _, x := range refused {
		wantNothingDone(t, holding, x.line, x.told)
		for _, keep := range []string{"-1", "0", "8", "9"} {
			wantNothingDone(t, holding, "tear "+keep+" "+x.line, x.told)
		}
	}
	taken := append(slices.Clone(holding), "take 1 0 20")
	wantNothingDone(t, taken, "take 1 3 1", "no 5")
	wantNothingDone(t, taken, "tear 3 take 1 3 1", "no 5")
}

// served are orders that are done behind holding, of the node %d, what is told
// of them, and how job 1 (of add 3, of take 2) is then.
var served = []struct{ line, told, asks, job string }{
	{"add %d 3", "ok", "job 1 3", "job 1 0 0 0"},
	{"take %d 3 5", "ok 2 1", "job 1 2", "job 2 3 1 11"},
	{"renew %d 1 1 2 20", "ok", "job 1 1", "job 2 2 1 26"},
	{"done %d 1 1 2", "ok", "job 1 1", "job 3 2 1 0"},
	{"drop %d 1 1 2", "ok", "job 1 1", "job 1 0 1 0"},
}

func TestOrdersThatAreDone(t *testing.T) {
	for _, x := range served {
		d := behind(t, holding...)
		wantSaid(t, d, said{fmt.Sprintf(x.line, 1), x.told}, said{x.asks, x.job}, said{"disk", "disk 2 36 6"})
	}
}

func TestTake(t *testing.T) {
	d := behind(t, "open 2", "add 2 5", "add 2 0", "add 2 3")
	wantSaid(t, d,
		said{"take 2 1 2", "ok 0 1"}, said{"take 2 0 20", "ok 3 1"}, said{"take 2 3 1", "ok 5 1"}, said{"take 2 3 1", "no 5"},
		said{"tick 1", "ok"}, said{"take 2 3 1", "ok 5 2"}, said{"tick 1", "ok"}, said{"take 2 2 9", "ok 0 2"},
		said{"take 2 2 9", "ok 5 3"}, said{"take 2 2 9", "no 5"})
}

// A torn take tells no job and no try: the node went down ahead of answering.
func TestTearOfEachOrder(t *testing.T) {
	for _, x := range served {
		for _, keep := range []int{-1 << 63, -1, 0, 1, 5, 8, 9, 10, 1<<63 - 1} {
			came := min(max(keep, 0), codec.Size)
			d := behind(t, holding...)
			ahead := done(t, d, x.asks)
			wantSaid(t, d,
				said{fmt.Sprint("tear ", keep, " ", fmt.Sprintf(x.line, 1)), "ok"},
				said{"disk", fmt.Sprint("disk 2 ", 27+came, " 6")},
				said{x.asks, strings.TrimSuffix(ahead, "\n")},
				said{fmt.Sprintf(x.line, 1), "no 10"})
			done(t, d, "open 1")
			if came < codec.Size {
				wantSaid(t, d, said{"disk", "disk 3 27 6"}, said{x.asks, strings.TrimSuffix(ahead, "\n")}, said{fmt.Sprintf(x.line, 1), x.told})
			} else {
				wantSaid(t, d, said{"disk", "disk 3 36 6"})
			}
			wantSaid(t, d, said{x.asks, x.job})
		}
	}
}

func TestANodeThatWasFenced(t *testing.T) {
	for _, x := range served {
		for _, tear := range []string{"", "tear 0 ", "tear 9 "} {
			d := behind(t, holding...)
			line := tear + fmt.Sprintf(x.line, 0)
			wantSaid(t, d, said{"job 0 1", "job 1 0 0 0"}, said{line, "no 9"}, said{line, "no 10"}, said{"job 0 1", "job 1 0 0 0"}, said{"disk", "disk 2 27 6"})
			wantSaid(t, d, said{fmt.Sprintf(x.line, 1), x.told})
		}
	}
}

func TestANodeThatIsDown(t *testing.T) {
	ahead := append(slices.Clone(holding), "down 1")
	for _, x := range served {
		wantNothingDone(t, ahead, fmt.Sprintf(x.line, 1), "no 10")
		wantNothingDone(t, ahead, "tear 9 "+fmt.Sprintf(x.line, 1), "no 10")
	}
	wantNothingDone(t, ahead, "job 1 1", "job 2 2 1 9")
	wantNothingDone(t, ahead, "down 1", "ok")
}

func TestJobOfEachState(t *testing.T) {
	d := behind(t, "open 0", "add 0 1", "add 0 2", "add 0 3", "add 0 4", "take 0 3 20", "done 0 1 1 3", "take 0 2 9")
	for range 3 {
		done(t, d, "take 0 1 1", "drop 0 3 1 1", "drop 0 3 2 1", "drop 0 3 3 1")
	}
	wantTold(t, d, []string{"job 0 0", "job 0 1", "job 0 2", "job 0 3", "job 0 4", "job 0 5"},
		"job 0 0 0 0", "job 3 3 1 0", "job 2 2 1 9", "job 4 0 3 0", "job 1 0 0 0", "job 0 0 0 0")
}

func TestAJobThatThereIsNot(t *testing.T) {
	for _, job := range []string{"-1", "6", "9", "256", "257", "4294967297", "-9223372036854775808", "9223372036854775807"} {
		wantNothingDone(t, holding, "job 1 "+job, "job 0 0 0 0")
		wantNothingDone(t, holding, "holders "+job, "holders")
		wantNothingDone(t, holding, "job 2 "+job, "no 5")
	}
}

func TestAJobOfANodeThatThereIsNot(t *testing.T) {
	for _, node := range []string{"2", "-1", "3", "256", "257", "4294967297", "-9223372036854775808", "9223372036854775807"} {
		wantNothingDone(t, holding, "job "+node+" 1", "no 5")
	}
}

// The clock is the guild's, and later than that of a node's table.
func TestDisk(t *testing.T) {
	d := desk.New()
	wantSaid(t, d, said{"disk", "disk 0 0 0"}, said{"tick 60000", "ok"}, said{"disk", "disk 0 0 60000"})
	wantSaid(t, d, said{"open 0", "ok"}, said{"disk", "disk 1 0 60000"}, said{"add 0 0", "ok"}, said{"disk", "disk 1 9 60000"})
	wantSaid(t, d, said{"tear 5 add 0 1", "ok"}, said{"disk", "disk 1 14 60000"}, said{"open 1", "ok"}, said{"disk", "disk 2 9 60000"})
}

func TestLogOfADiskOnWhichNothingStands(t *testing.T) {
	for _, ahead := range [][]string{nil, {"tick 3"}, {"open 0"}, {"open 0", "open 1"}, {"open 0", "tear 0 add 0 1"}, {"open 0", "tear 8 add 0 1", "open 0"}} {
		wantNothingDone(t, ahead, "log", "end")
		wantNothingDone(t, ahead, "holders 1", "holders")
		wantNothingDone(t, ahead, "holders 0", "holders")
	}
}

// Torn bytes stand on the disk till it is opened anew, but tell no record.
func TestLogOfADiskWithATornRecord(t *testing.T) {
	const log = "record 1 1 0 1 0 0 0 job 1 0 0 0\n" + "record 2 1 0 2 0 0 0 job 1 0 0 0\n" + "record 2 2 4 0 0 2 5 job 2 2 1 9\n"
	for keep := range 12 {
		d := behind(t, append(slices.Clone(holding), fmt.Sprint("tear ", keep, " take 1 0 3"))...)
		last, holders := "end", "holders"
		if keep >= codec.Size {
			last, holders = "record 2 2 6 0 0 0 3 job 2 0 1 9\nend", "holders 0 1"
		}
		for range 2 {
			wantSaid(t, d, said{"log", log + last}, said{"holders 1", "holders 2 1"}, said{"holders 2", holders})
			done(t, d, "open 2")
		}
	}
}

// Of records whose orders were refused there are none in a guild, so that each
// record has its job; an order to take one has that of its answer.
func TestLogTellsTheJobOfAnOrder(t *testing.T) {
	d := behind(t, "open 0", "add 0 3", "tick 258", "add 0 5", "take 0 3 20", "renew 0 3 1 3 1", "take 0 1 1", "drop 0 5 1 1", "done 0 3 1 3")
	wantTold(t, d, []string{"log"},
		"record 1 1 0 3 0 0 0 job 1 0 0 0",
		"record 1 1 258 5 0 0 0 job 1 0 0 0",
		"record 1 2 258 0 0 3 20 job 2 3 1 278",
		"record 1 3 258 3 1 3 1 job 2 3 1 259",
		"record 1 2 258 0 0 1 1 job 2 1 1 259",
		"record 1 5 258 5 1 1 0 job 1 0 1 0",
		"record 1 4 258 3 1 3 0 job 3 3 1 0",
		"end")
}

func TestLogOfADiskThatIsFull(t *testing.T) {
	d := behind(t, "open 0", "add 0 0", "take 0 1 20")
	want := []string{"record 1 1 0 0 0 0 0 job 1 0 0 0", "record 1 2 0 0 0 1 20 job 2 1 1 20"}
	for range 164 {
		wantSaid(t, d, said{"renew 0 0 1 1 20", "ok"})
		want = append(want, "record 1 3 0 0 1 1 20 job 2 1 1 20")
	}
	wantSaid(t, d, said{"renew 0 0 1 1 20", "no 8"}, said{"tear 7 add 0 1", "no 8"}, said{"disk", "disk 1 1494 0"})
	wantTold(t, d, []string{"log"}, append(want, "end")...)
	wantSaid(t, d, said{"tear 6 add 0 1", "ok"}, said{"disk", "disk 1 1500 0"})
	wantTold(t, d, []string{"log"}, append(want, "end")...)
	wantTold(t, d, []string{"holders 0"}, "holders 1 1")
}

func TestOpenBehindTheLastEpoch(t *testing.T) {
	d := desk.New()
	for epoch := range api.MaxEpoch {
		wantSaid(t, d, said{fmt.Sprint("open ", epoch%2), "ok"}, said{"disk", fmt.Sprint("disk ", epoch+1, " 0 0")})
	}
	wantSaid(t, d, said{"open 0", "no 8"}, said{"open 2", "no 8"}, said{"open 3", "no 3"}, said{"job 2 0", "no 5"}, said{"add 1 3", "ok"})
	wantSaid(t, d, said{"log", "record 100 1 0 3 0 0 0 job 1 0 0 0\nend"}, said{"disk", "disk 100 9 0"})
}

func TestHolders(t *testing.T) {
	d := behind(t, "open 0", "add 0 1", "add 0 4", "take 0 3 1", "take 0 2 20", "tick 1", "open 1", "take 1 0 2", "drop 1 1 2 0", "take 1 3 2", "done 1 1 3 3")
	wantTold(t, d, []string{"holders 1", "holders 4", "holders 0", "holders 5"}, "holders 3 1 0 2 3 3", "holders 2 1", "holders", "holders")
}

func TestTheDocumentsExamples(t *testing.T) {
	wantSaid(t, behind(t, "open 0", "add 0 1", "take 0 1 5", "tick 5"),
		said{"take 0 2 5", "ok 1 2"}, said{"done 0 1 1 1", "no 6"})
	wantSaid(t, behind(t, "open 0", "open 1"),
		said{"add 0 1", "no 9"}, said{"add 0 1", "no 10"}, said{"disk", "disk 2 0 0"})
	wantSaid(t, behind(t, "open 0", "add 0 1", "take 0 1 5", "tear 8 done 0 1 1 1", "open 0"),
		said{"disk", "disk 2 18 0"}, said{"job 0 1", "job 2 1 1 5"})
}
