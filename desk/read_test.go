package desk_test

import (
	"fmt"
	"slices"
	"strings"
	"testing"

	"vergers/api"
	"vergers/desk"
)

func TestNoLineTellsNothing(t *testing.T) {
	for _, lines := range [][]string{nil, {}, {""}, {" "}, {"", "   ", " "}, make([]string, api.MaxLines)} {
		wantTold(t, desk.New(), lines)
		d := behind(t, holding...)
		wantTold(t, d, lines)
		wantLike(t, d, behind(t, holding...))
	}
	wantTold(t, desk.New(), []string{"", "disk", "  ", "log", ""}, "disk 0 0 0", "end")
}

func TestBlanks(t *testing.T) {
	for _, x := range []string{"add 1 3", "take 1 3 5", "renew 1 1 1 2 20", "done 1 1 1 2", "drop 1 1 1 2", "tear 9 take 1 3 5",
		"open 2", "down 1", "tick 3", "job 1 1", "disk", "log", "holders 1", "no such line", "tear 9 open 2", "add 1"} {
		plain := behind(t, holding...)
		want := done(t, plain, x)
		for _, between := range []string{" ", "  ", "       "} {
			for _, around := range []string{"", " ", "     "} {
				line := strings.ReplaceAll(x, " ", between)
				for _, whole := range []string{around + line, line + around, around + line + around} {
					d, other := behind(t, holding...), behind(t, holding...)
					if told := done(t, d, whole); told != want {
						t.Fatalf("%q tells %q, want %q", whole, told, want)
					}
					done(t, other, x)
					wantLike(t, d, other)
				}
			}
		}
	}
}

func TestOtherBytesThanBlanks(t *testing.T) {
	for _, x := range []string{"\t", "\r", "\v", "\f", "\x00", "\x1f", "!", ",", "\x85", "\xa0", "\xff", "\u0085", "\u00a0", "\u2003", "\u3000", "\xe2\x80", "\xef\xbb\xbf"} {
		for _, line := range []string{x, "disk" + x, x + "disk", "open" + x + "2", "open 2" + x, "open " + x + "2", x + "open 2", "open 2 " + x, "add 1" + x + "3", "tear 9" + x + "add 1 3", "tear" + x + "9 add 1 3", "job 1 1" + x, "holders" + x + "1", "log" + x} {
			wantNothingDone(t, holding, line, "what")
		}
	}
}

func TestWordsOfBytesThatAreNoText(t *testing.T) {
	wantTold(t, desk.New(), []string{"\xff \xfe", "\xe2 disk", "disk", "\xf0\x9f disk"}, "what", "what", "disk 0 0 0", "what")
}

func TestAWordThatThereIsNot(t *testing.T) {
	for _, x := range []string{"x", "what", "no", "ok", "record", "end", "Open 2", "OPEN 2", "ope 2", "opens 2", "open2", "2 open", "2", "-1", "0", "\"disk\"", "disks", "Disk", "step 1", "SOpen 2", "raise", "cut 2 1", "stop 1", "node 1", "now", "Log", "l", "take1 3 5", "tears 9 add 1 3", "Tear 9 add 1 3", "tear 9 Add 1 3", "tear 9 x 1 3", "disk;log", "\"\"", "#"} {
		wantNothingDone(t, holding, x, "what")
	}
}

func TestTooFewAndTooManyWords(t *testing.T) {
	for _, f := range forms() {
		if told := done(t, desk.New(), f.line()); told == "what\n" {
			t.Fatalf("%q tells %q", f.line(), told)
		}
		for n := range 9 {
			if n == f.numbers {
				continue
			}
			line := form{f.word, n}.line("1", "3", "1", "2", "5")
			wantNothingDone(t, holding, line, "what")
			wantNothingDone(t, holding, "tear 9 "+line, "what")
		}
	}
	for _, line := range []string{"disk disk", "log log", "open 2 open 2", "tear 9 add 1 3 add 1 4", "add 1 3 tear 9"} {
		wantNothingDone(t, holding, line, "what")
	}
}

func TestATearOfNoOrder(t *testing.T) {
	for _, line := range []string{"tear", "tear 9", "tear 9 9", "tear add", "tear add 1 3", "tear 9 add", "tear 9 9 add 1 3", "tear x add 1 3", "tear 09 add 1 3", "tear +9 add 1 3", "tear -0 add 1 3", "tear 9223372036854775808 add 1 3", "tear add 1 3 9",
		"tear 9 open 2", "tear 9 down 1", "tear 9 tick 1", "tear 9 job 1 1", "tear 9 disk", "tear 9 log", "tear 9 holders 1",
		"tear 9 tear 9 add 1 3", "tear 9 tear", "tear tear 9 add 1 3", "tear 9 tear 9", "tear tear"} {
		wantNothingDone(t, holding, line, "what")
	}
	for _, f := range others {
		wantNothingDone(t, holding, "tear 9 "+f.line("1", "1"), "what")
	}
}

func TestAVeryLongLine(t *testing.T) {
	for _, line := range []string{strings.Repeat("tear 9 ", 200000) + "add 1 3", strings.Repeat("disk ", 200000), strings.Repeat("a", 1000000), "open " + strings.Repeat("0", 1000000), "open " + strings.Repeat("9", 1000000), "open -" + strings.Repeat("1", 1000000)} {
		if told := done(t, desk.New(), line); told != "what\n" {
			t.Fatalf("%.30q.. tells %q", line, told)
		}
	}
	many := strings.Repeat(" ", 1000000)
	wantTold(t, desk.New(), []string{many, many + "open" + many + "2" + many}, "ok")
}

// notNumbers are words that are no number, or not as short as can be, or not of
// 64 bits.
var notNumbers = []string{
	"+0", "+1", "+2", "00", "01", "02", "-0", "-00", "-01", "-02", "+-1", "--1", "-", "+", "x", "1x", "x1", "1.", "1.0", ".1", "1e0", "0x1", "0b1", "0o1", "01_0", "1_0", "1,0", "'1'", "1-", "1+", "one", "nil", "NaN", "inf", "true", "1\t", "\t1", "\u0661", "\uff11", "\xb9", "\u2212" + "1",
	"9223372036854775808", "-9223372036854775809", "18446744073709551615", "18446744073709551616", "18446744073709551617", "-18446744073709551615", "99999999999999999999999", "-99999999999999999999999",
	"09223372036854775807", "+9223372036854775807", "-09223372036854775808",
}

func TestWordsThatAreNoNumbers(t *testing.T) {
	for _, f := range forms() {
		for at := range f.numbers {
			for _, x := range notNumbers {
				numbers := []string{"1", "1", "1", "2", "5"}
				numbers[at] = x
				wantNothingDone(t, holding, f.line(numbers...), "what")
				if slices.Contains(orders, f) {
					wantNothingDone(t, holding, "tear 9 "+f.line(numbers...), "what")
				}
			}
		}
	}
	for _, x := range notNumbers {
		wantNothingDone(t, holding, "tear "+x+" add 1 3", "what")
	}
}

// The least and the greatest numbers of 64 bits are numbers wherever one
// stands, though most of them are in no range.
func TestTheLeastAndTheGreatestNumbers(t *testing.T) {
	told := map[string][]string{ // by what is told where each number is such a one
		"open": {"no 3"}, "down": {"no 5"}, "tick": {"no 3"}, "holders": {"holders"},
		"job":  {"no 5", "job 0 0 0 0"},
		"add":  {"no 5", "no 3"},
		"take": {"no 5", "no 3", "no 3"},
		"done": {"no 5", "no 3", "no 3", "no 3"}, "drop": {"no 5", "no 3", "no 3", "no 3"},
		"renew": {"no 5", "no 3", "no 3", "no 3", "no 3"},
	}
	for _, x := range []string{"-9223372036854775808", "-9223372036854775807", "-1", "9223372036854775806", "9223372036854775807"} {
		for _, f := range forms() {
			for at := range f.numbers {
				numbers := []string{"1", "1", "1", "2", "5"}
				if f.word == "take" {
					numbers = []string{"1", "2", "5"}
				}
				numbers[at] = x
				wantNothingDone(t, holding, f.line(numbers...), told[f.word][at])
				if slices.Contains(orders, f) {
					wantNothingDone(t, holding, "tear 3 "+f.line(numbers...), told[f.word][at])
				}
			}
		}
	}
	wantSaid(t, behind(t, holding...), said{"tear -9223372036854775808 add 1 3", "ok"}, said{"disk", "disk 2 27 6"})
	wantSaid(t, behind(t, holding...), said{"tear 9223372036854775807 add 1 3", "ok"}, said{"disk", "disk 2 36 6"})
}

func TestZero(t *testing.T) {
	wantSaid(t, desk.New(),
		said{"tick 0", "ok"}, said{"open 0", "ok"}, said{"add 0 0", "ok"}, said{"take 0 0 0", "no 3"}, said{"take 0 0 1", "ok 0 1"},
		said{"renew 0 0 0 0 1", "no 3"}, said{"renew 0 0 1 0 0", "no 3"}, said{"done 0 0 0 0", "no 3"}, said{"drop 0 0 0 0", "no 3"},
		said{"job 0 0", "job 2 0 1 1"}, said{"holders 0", "holders 0 1"}, said{"tear 0 done 0 0 1 0", "ok"}, said{"disk", "disk 1 18 0"},
		said{"down 0", "ok"})
}

func TestAsManyLinesAsMayBe(t *testing.T) {
	lines := slices.Repeat([]string{"tick 1"}, api.MaxLines)
	d := desk.New()
	if told := done(t, d, lines...); told != strings.Repeat("ok\n", api.MaxLines) {
		t.Fatalf("it tells %q", told)
	}
	wantSaid(t, d, said{"disk", fmt.Sprint("disk 0 0 ", api.MaxLines)})
	done(t, d, lines...)
	wantSaid(t, d, said{"disk", fmt.Sprint("disk 0 0 ", 2*api.MaxLines)})
}

func TestTooManyLines(t *testing.T) {
	many := api.Fault{Code: api.ErrMany, At: -1}
	for _, n := range []int{api.MaxLines + 1, api.MaxLines + 2, 2 * api.MaxLines, 100000} {
		for _, line := range []string{"", " ", "tick 1", "open 2", "down 1", "disk", "x", "\n", "a\nb"} {
			wantFault(t, many, slices.Repeat([]string{line}, n))
		}
	}
	wantFault(t, many, append(make([]string, api.MaxLines), "\n"))
	wantFault(t, many, append([]string{"\n"}, make([]string, api.MaxLines)...))
}

func TestALineWithANewline(t *testing.T) {
	for _, bad := range []string{"\n", "\n\n", "disk\n", "\ndisk", "open 2\nopen 2", "open\n2", "x\n", " \n ", "\r\n", "down 1\n"} {
		for _, n := range []int{1, 2, 3, api.MaxLines} {
			for _, at := range []int{0, n / 2, n - 1} {
				lines := slices.Repeat([]string{"tick 1"}, n)
				lines[0] = "open 2"
				lines[n-1] = "down 1"
				lines[at] = bad
				wantFault(t, api.Fault{Code: api.ErrLine, At: at}, lines)
				lines[n-1] = bad
				wantFault(t, api.Fault{Code: api.ErrLine, At: at}, lines)
			}
		}
	}
}

func TestADoBehindAFault(t *testing.T) {
	d := behind(t, "open 0", "add 0 1")
	for _, lines := range [][]string{{"disk", "tick 3", "\n"}, {"log\n"}, make([]string, api.MaxLines+1)} {
		if told, fault := d.Do(lines); told != "" || fault.Code == 0 {
			t.Fatalf("Do(%q) = %q, %+v", lines, told, fault)
		}
		wantTold(t, d, []string{"disk"}, "disk 1 9 0")
		wantTold(t, d, []string{"job 0 1", "log"}, "job 1 0 0 0", "record 1 1 0 1 0 0 0 job 1 0 0 0", "end")
	}
}

// What lies behind the lines' length is neither read nor written.
func TestLinesAreNeitherChangedNorKept(t *testing.T) {
	roomy := append(slices.Concat(holding, []string{"", " disk ", "x", "tear 3 done 1 1 1 2"}), "open 2", "\n", "open 2")
	ahead := slices.Clone(roomy)
	d := desk.New()
	told := done(t, d, roomy[:len(roomy)-3]...)
	if !slices.Equal(roomy, ahead) {
		t.Fatalf("%q became %q", ahead, roomy)
	}
	for i := range roomy {
		roomy[i] = "x"
	}
	if want := "ok\nok\nok\nok\nok\nok 1 1\nok\ndisk 2 27 6\nwhat\nok\n"; told != want {
		t.Fatalf("it tells %q, want %q", told, want)
	}
	wantSaid(t, d, said{"disk", "disk 2 30 6"})
}
