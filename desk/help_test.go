package desk_test

import (
	"fmt"
	"slices"
	"strings"
	"testing"

	"vergers/api"
	"vergers/desk"
)

// form is a line of the chapter's table: its first word, and how many numbers
// stand behind it.
type form struct {
	word    string
	numbers int
}

// orders are the lines that can be torn, others are those that can not.
var (
	orders = []form{{"add", 2}, {"renew", 5}, {"done", 4}, {"drop", 4}, {"take", 3}}
	others = []form{{"open", 1}, {"down", 1}, {"tick", 1}, {"job", 2}, {"disk", 0}, {"log", 0}, {"holders", 1}}
)

func forms() []form { return slices.Concat(orders, others) }

// line is that form with each number as it is given, or 0.
func (f form) line(numbers ...string) string {
	words := []string{f.word}
	for i := range f.numbers {
		if i < len(numbers) {
			words = append(words, numbers[i])
		} else {
			words = append(words, "0")
		}
	}
	return strings.Join(words, " ")
}

// said is a line, and all that is told of it: of several things a newline
// stands between.
type said struct{ line, told string }

// done does lines on a desk, of which none may have a fault.
func done(t *testing.T, d *desk.Desk, lines ...string) string {
	t.Helper()
	told, fault := d.Do(lines)
	if fault != (api.Fault{}) {
		t.Fatalf("Do(%q) has the fault %+v", lines, fault)
	}
	return told
}

// behind answers a new desk that did these lines, each with `ok` or `ok` and
// more.
func behind(t *testing.T, lines ...string) *desk.Desk {
	t.Helper()
	d := desk.New()
	for _, line := range lines {
		if told := done(t, d, line); !strings.HasPrefix(told, "ok") {
			t.Fatalf("%q tells %q", line, told)
		}
	}
	return d
}

// wantTold: lines tell that, of which each thing told is one of want.
func wantTold(t *testing.T, d *desk.Desk, lines []string, want ...string) {
	t.Helper()
	text := ""
	for _, x := range want {
		text += x + "\n"
	}
	if told := done(t, d, lines...); told != text {
		t.Fatalf("Do(%q) tells\n%q, want\n%q", lines, told, text)
	}
}

// wantSaid asks for line by line.
func wantSaid(t *testing.T, d *desk.Desk, all ...said) {
	t.Helper()
	for _, x := range all {
		wantTold(t, d, []string{x.line}, x.told)
	}
}

// look tells all that lines tell without changing a desk.
func look(t *testing.T, d *desk.Desk) string {
	t.Helper()
	lines := []string{"disk", "log"}
	for job := -1; job <= api.MaxJobs; job++ {
		lines = append(lines, fmt.Sprint("holders ", job))
		for node := -1; node <= api.Nodes; node++ {
			lines = append(lines, fmt.Sprint("job ", node, " ", job))
		}
	}
	return done(t, d, lines...)
}

// spend tells what can be told of nodes only by ordering them: whether they are
// down, were fenced or serve. A desk is not as it was behind it.
func spend(t *testing.T, d *desk.Desk) string {
	t.Helper()
	return done(t, d, "add 0 -1", "add 1 -1", "add 2 -1", "add 0 5", "add 1 5", "add 2 5", "disk")
}

// wantLike: two desks tell the same; they are spent behind it.
func wantLike(t *testing.T, one, other *desk.Desk) {
	t.Helper()
	if a, b := look(t, one), look(t, other); a != b {
		t.Fatalf("one desk tells\n%q, the other\n%q", a, b)
	}
	if a, b := spend(t, one), spend(t, other); a != b {
		t.Fatalf("nodes of one desk tell\n%q, of the other\n%q", a, b)
	}
}

// wantNothingDone: of a desk that did the lines ahead, line tells want, and the
// desk is as one that was not told it.
func wantNothingDone(t *testing.T, ahead []string, line, want string) {
	t.Helper()
	d := behind(t, ahead...)
	wantTold(t, d, []string{line}, want)
	wantLike(t, d, behind(t, ahead...))
}

// wantFault: behind lines that have a fault nothing was told, nor done.
func wantFault(t *testing.T, want api.Fault, lines []string) {
	t.Helper()
	ahead := []string{"open 0", "add 0 1", "open 1", "tick 2", "take 1 3 7"}
	d := behind(t, ahead...)
	if told, fault := d.Do(lines); told != "" || fault != want {
		t.Fatalf("Do(%.300q) = %.300q, %+v, want the fault %+v", lines, told, fault, want)
	}
	wantLike(t, d, behind(t, ahead...))
}

// whole is a day of a guild: each line of the table, each behind others.
func whole() []said {
	return []said{
		{"disk", "disk 0 0 0"},
		{"log", "end"},
		{"holders 2", "holders"},
		{"job 1 2", "no 5"},
		{"add 1 2", "no 5"},
		{"down 1", "no 5"},
		{"tear 9 add 1 2", "no 5"},
		{"open 1", "ok"},
		{"job 1 2", "job 0 0 0 0"},
		{"add 1 2", "ok"},
		{"add 1 4", "ok"},
		{"job 1 2", "job 1 0 0 0"},
		{"tick 300", "ok"},
		{"take 1 3 5", "ok 2 1"},
		{"take 1 1 6", "ok 4 1"},
		{"take 1 2 6", "no 5"},
		{"job 1 2", "job 2 3 1 305"},
		{"renew 1 2 1 3 20", "ok"},
		{"job 1 2", "job 2 3 1 320"},
		{"drop 1 4 1 1", "ok"},
		{"job 1 4", "job 1 0 1 0"},
		{"tick 1", "ok"},
		{"tear 4 done 1 2 1 3", "ok"},
		{"disk", "disk 1 58 301"},
		{"done 1 2 1 3", "no 10"},
		{"open 0", "ok"},
		{"disk", "disk 2 54 301"},
		{"job 0 2", "job 2 3 1 320"},
		{"done 0 2 1 3", "ok"},
		{"job 0 2", "job 3 3 1 0"},
		{"job 1 2", "job 2 3 1 320"},
		{"take 0 0 2", "ok 4 2"},
		{"open 2", "ok"},
		{"take 0 0 2", "no 9"},
		{"take 0 0 2", "no 10"},
		{"tick 2", "ok"},
		{"tear 9 take 2 1 3", "ok"},
		{"job 2 4", "job 2 0 2 303"},
		{"open 2", "ok"},
		{"job 2 4", "job 2 1 3 306"},
		{"drop 2 4 3 1", "ok"},
		{"job 2 4", "job 4 0 3 0"},
		{"down 2", "ok"},
		{"add 2 0", "no 10"},
		{"log", "record 1 1 0 2 0 0 0 job 1 0 0 0\n" +
			"record 1 1 0 4 0 0 0 job 1 0 0 0\n" +
			"record 1 2 300 0 0 3 5 job 2 3 1 305\n" +
			"record 1 2 300 0 0 1 6 job 2 1 1 306\n" +
			"record 1 3 300 2 1 3 20 job 2 3 1 320\n" +
			"record 1 5 300 4 1 1 0 job 1 0 1 0\n" +
			"record 2 4 301 2 1 3 0 job 3 3 1 0\n" +
			"record 2 2 301 0 0 0 2 job 2 0 2 303\n" +
			"record 3 2 303 0 0 1 3 job 2 1 3 306\n" +
			"record 4 5 303 4 3 1 0 job 4 0 3 0\n" +
			"end"},
		{"holders 2", "holders 3 1"},
		{"holders 4", "holders 1 1 0 2 1 3"},
		{"holders 0", "holders"},
		{"disk", "disk 4 90 303"},
		{"wait 3", "what"},
	}
}

// linesOf and textOf are all lines of such a day, and all that they tell.
func linesOf(all []said) []string {
	var lines []string
	for _, x := range all {
		lines = append(lines, x.line)
	}
	return lines
}

func textOf(all []said) string {
	text := ""
	for _, x := range all {
		text += x.told + "\n"
	}
	return text
}
