package desk_test

import (
	"fmt"
	"math/big"
	"regexp"
	"slices"
	"strings"
	"testing"

	"vergers/api"
	"vergers/codec"
	"vergers/desk"
	"vergers/guild"
	"vergers/jobs"
)

// dice answers numbers that look thrown, the same ones of each seed.
type dice uint64

func (d *dice) throw(n int) int {
	*d = *d*6364136223846793005 + 1442695040888963407
	return int(uint64(*d)>>33) % n
}

func (d *dice) pick(l ...string) string { return l[d.throw(len(l))] }

// plain tells lines by patterns of the whole line, and by a guild of its own.
type plain struct {
	*guild.Guild
}

const numeral = `(0|-?[1-9][0-9]*)`

// patterns are those of all lines, by how many numbers each word has.
func patterns() map[string]*regexp.Regexp {
	all := map[string]*regexp.Regexp{}
	for _, f := range forms() {
		all[f.word] = regexp.MustCompile(`^ *` + f.word + strings.Repeat(` +`+numeral, f.numbers) + ` *$`)
	}
	for _, f := range orders {
		all["tear "+f.word] = regexp.MustCompile(`^ *tear +` + numeral + ` +` + f.word + strings.Repeat(` +`+numeral, f.numbers) + ` *$`)
	}
	return all
}

// match answers which line it is, and its numbers.
func match(all map[string]*regexp.Regexp, line string) (string, []int) {
	for word, p := range all {
		m := p.FindStringSubmatch(line)
		if m == nil {
			continue
		}
		var numbers []int
		for _, x := range m[1:] {
			n, _ := new(big.Int).SetString(x, 10)
			if !n.IsInt64() {
				return "", nil
			}
			numbers = append(numbers, int(n.Int64()))
		}
		return word, numbers
	}
	return "", nil
}

func (p plain) tell(all map[string]*regexp.Regexp, line string) string {
	if strings.Trim(line, " ") == "" {
		return ""
	}
	word, n := match(all, line)
	switch word {
	case "":
		return "what\n"
	case "open":
		return p.step(api.Step{Kind: api.SOpen, N: n[0]})
	case "down":
		return p.step(api.Step{Kind: api.SDown, N: n[0]})
	case "tick":
		return p.step(api.Step{Kind: api.STick, N: n[0]})
	case "job":
		if p.Node(n[0]) == nil {
			return "no 5\n"
		}
		return fmt.Sprintln("job", jobText(p.Node(n[0]).Job(n[1])))
	case "disk":
		return fmt.Sprintln("disk", p.Epoch(), len(p.Bytes()), p.Now())
	case "log":
		log, _ := p.story()
		return log
	case "holders":
		_, holders := p.story()
		return "holders" + holders[n[0]] + "\n"
	}
	if torn, ok := strings.CutPrefix(word, "tear "); ok {
		return p.step(api.Step{Kind: api.STear, N: n[1], Keep: n[0], Order: order(torn, n[2:])})
	}
	return p.step(api.Step{Kind: api.SOrder, N: n[0], Order: order(word, n[1:])})
}

func jobText(j api.Job) string { return fmt.Sprint(j.State, j.Worker, j.Try, j.Until) }

func order(word string, n []int) api.Order {
	switch word {
	case "add":
		return api.Order{Kind: api.OAdd, Job: n[0]}
	case "take":
		return api.Order{Kind: api.OTake, Worker: n[0], Term: n[1]}
	case "renew":
		return api.Order{Kind: api.ORenew, Job: n[0], Try: n[1], Worker: n[2], Term: n[3]}
	}
	return api.Order{Kind: map[string]int{"done": api.ODone, "drop": api.ODrop}[word], Job: n[0], Try: n[1], Worker: n[2]}
}

func (p plain) step(x api.Step) string {
	a := p.Step(x)
	if a.Code != 0 {
		return fmt.Sprintln("no", a.Code)
	}
	if x.Kind == api.SOrder && x.Order.Kind == api.OTake {
		return fmt.Sprintln("ok", a.Job, a.Try)
	}
	return "ok\n"
}

// story tells the log, and of each job what stands behind the word holders, by
// a table that is given the disk's records.
func (p plain) story() (string, map[int]string) {
	log, holders := "", map[int]string{}
	t := jobs.New()
	for _, r := range codec.All(p.Bytes()) {
		o := r.Order
		a := t.Do(o)
		job := o.Job
		if o.Kind == api.OTake {
			job = a.Job
			holders[job] += fmt.Sprintf(" %d %d", o.Worker, a.Try)
		}
		log += fmt.Sprintln("record", r.Epoch, o.Kind, o.Now, o.Job, o.Try, o.Worker, o.Term, "job", jobText(t.Job(job)))
	}
	return log + "end\n", holders
}

// throwLine makes lines of which most are of the table, and many are done.
func throwLine(d *dice, p plain) string {
	node := d.throw(api.Nodes)
	for n := range api.Nodes {
		if x := p.Node(n); x != nil && x.Epoch() == p.Epoch() && d.throw(5) > 0 {
			node = n
		}
	}
	job, try, worker := d.throw(api.MaxJobs), 1+d.throw(api.MaxTries), d.throw(api.Workers)
	if n := p.Node(node); n != nil && n.Job(job).State == api.Held && d.throw(4) > 0 {
		try, worker = n.Job(job).Try, n.Job(job).Worker
	}
	term := 1 + d.throw(api.MaxTerm)
	orders := []string{
		fmt.Sprint("add ", node, " ", job),
		fmt.Sprint("take ", node, " ", worker, " ", term),
		fmt.Sprint("take ", node, " ", worker, " ", term),
		fmt.Sprint("renew ", node, " ", job, " ", try, " ", worker, " ", term),
		fmt.Sprint("done ", node, " ", job, " ", try, " ", worker),
		fmt.Sprint("drop ", node, " ", job, " ", try, " ", worker),
	}
	switch d.throw(20) {
	case 0:
		return fmt.Sprint("open ", d.throw(api.Nodes+1))
	case 1:
		return fmt.Sprint("tear ", d.throw(13)-2, " ", d.pick(orders...))
	case 2:
		return fmt.Sprint("down ", node)
	case 3, 4:
		return fmt.Sprint("tick ", d.throw(9)-1)
	case 5:
		return d.pick("disk", "log", fmt.Sprint("holders ", job))
	case 6, 7:
		return fmt.Sprint("job ", node, " ", job)
	case 8:
		return throwWords(d)
	}
	return d.pick(orders...)
}

// throwWords makes lines that may be of the table or not.
func throwWords(d *dice) string {
	words := []string{d.pick("add", "take", "renew", "done", "drop", "tear", "open", "down", "tick", "job", "disk", "log", "holders", "x", "")}
	for range d.throw(7) {
		words = append(words, d.pick("0", "1", "2", "3", "-1", "9", "add", "take", "01", "+1", "-0", "x", "\t", "9223372036854775807", "9223372036854775808", "-9223372036854775808", "-9223372036854775809"))
	}
	return strings.Join(words, " ")
}

// blanked puts more blanks where one stands, and some around.
func blanked(d *dice, line string) string {
	if d.throw(4) > 0 {
		return line
	}
	blanks := func() string { return strings.Repeat(" ", d.throw(3)) }
	words := strings.Split(line, " ")
	return blanks() + strings.Join(words, " "+blanks()) + blanks()
}

// throwDay makes lines and what they tell.
func throwDay(seed, n int) []said {
	d, p, all := dice(seed), plain{guild.New()}, patterns()
	day := []said{{"open 0", p.tell(all, "open 0")}}
	for range n {
		line := blanked(&d, throwLine(&d, p))
		day = append(day, said{line, p.tell(all, line)})
	}
	return day
}

func told(day []said) string {
	text := ""
	for _, x := range day {
		text += x.told
	}
	return text
}

// What is told of a day is the same however its lines are parted into Dos, and
// whatever Dos with faults stand between.
func TestThrownDays(t *testing.T) {
	seen := map[string]int{}
	for seed := range 150 {
		day := throwDay(seed, 200)
		d, desk := dice(seed+1000), desk.New()
		for rest := day; len(rest) > 0; {
			n := min(d.throw(d.throw(api.MaxLines)+1), len(rest))
			if text := done(t, desk, linesOf(rest[:n])...); text != told(rest[:n]) {
				t.Fatalf("%q tell\n%s, want\n%s", linesOf(rest[:n]), text, told(rest[:n]))
			}
			rest = rest[n:]
			if d.throw(4) == 0 {
				bad := append(linesOf(day[:d.throw(20)]), "a\nb")
				if text, fault := desk.Do(bad); text != "" || fault != (api.Fault{Code: api.ErrLine, At: len(bad) - 1}) {
					t.Fatalf("Do(%q) = %q, %+v", bad, text, fault)
				}
			}
		}
		for _, x := range day {
			if words := strings.Fields(x.line + " -"); !strings.HasPrefix(x.told, "what") {
				seen[words[0]+", "+strings.SplitN(x.told+" ", " ", 2)[0]]++
			}
		}
	}
	for _, x := range []string{"open, ok\n", "down, ok\n", "tick, ok\n", "tick, no", "add, ok\n", "add, no", "take, ok", "take, no", "renew, ok\n", "renew, no",
		"done, ok\n", "done, no", "drop, ok\n", "drop, no", "tear, ok\n", "tear, no", "job, job", "disk, disk", "log, record", "holders, holders"} {
		if seen[x] < 20 {
			t.Errorf("%q was seen %d times: %v", x, seen[x], seen)
		}
	}
}

func TestTwoDesksOfTheSameLinesTellTheSame(t *testing.T) {
	for seed := range 20 {
		lines := linesOf(throwDay(seed+500, api.MaxLines-1))
		one, other := desk.New(), desk.New()
		half := len(lines) / 2
		first := done(t, one, lines[:half]...)
		if text := first + done(t, one, lines[half:]...); text != done(t, other, lines...) {
			t.Fatalf("%q tell two things", lines)
		}
		wantLike(t, one, other)
	}
}

// throwBytes makes lines of bytes, and pieces of lines, of any kind.
func throwBytes(d *dice) string {
	line := ""
	for range d.throw(12) {
		line += d.pick(" ", "tear ", "add ", "0 ", "1", "-", "take", "disk", "\xff", "\t", "\x00", "9", string(rune(d.throw(0x3000))), string([]byte{byte(d.throw(256))}))
	}
	return line
}

func TestWhateverADeskIsGiven(t *testing.T) {
	all := patterns()
	for seed := range 300 {
		d, desk, p := dice(seed), desk.New(), plain{guild.New()}
		for range 30 {
			var lines []string
			for range d.throw(8) {
				lines = append(lines, throwBytes(&d))
			}
			at := slices.IndexFunc(lines, func(x string) bool { return strings.ContainsRune(x, '\n') })
			text, fault := desk.Do(lines)
			if at >= 0 {
				if text != "" || fault != (api.Fault{Code: api.ErrLine, At: at}) {
					t.Fatalf("Do(%q) = %q, %+v", lines, text, fault)
				}
				continue
			}
			want := ""
			for _, line := range lines {
				want += p.tell(all, line)
			}
			if text != want || fault != (api.Fault{}) {
				t.Fatalf("Do(%q) = %q, %+v, want %q", lines, text, fault, want)
			}
		}
	}
}

// Each line stands behind each other one, of a desk that serves and of a new
// one.
func TestEachLineBehindEachOther(t *testing.T) {
	all := patterns()
	var lines []string
	for _, f := range forms() {
		for _, n := range []string{"-1", "0", "1", "2", "3", "9223372036854775807", "x"} {
			lines = append(lines, f.line(n, n, n, n, n), f.line("1", n, "1", "2", "3"), "tear "+n+" "+f.line("1", n, "1", "2", "3"))
		}
	}
	for _, ahead := range [][]string{nil, holding} {
		for _, first := range lines {
			for _, second := range lines {
				p, want := plain{guild.New()}, ""
				whole := append(slices.Clone(ahead), first, second, "disk")
				for _, line := range whole {
					want += p.tell(all, line)
				}
				if text := done(t, desk.New(), whole...); text != want {
					t.Fatalf("%q tell %q, want %q", whole, text, want)
				}
			}
		}
	}
}
