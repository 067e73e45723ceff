package desk

import (
	"slices"
	"strconv"
	"strings"

	"vergers/api"
)

// check answers the fault of lines of which none is to be done.
func check(lines []string) api.Fault {
	if len(lines) > api.MaxLines {
		return api.Fault{Code: api.ErrMany, At: -1}
	}
	at := slices.IndexFunc(lines, func(line string) bool { return strings.Contains(line, "\n") })
	if at >= 0 {
		return api.Fault{Code: api.ErrLine, At: at}
	}
	return api.Fault{}
}

// wordsOf leaves out blanks alone: a tab is a byte of a word as others are.
func wordsOf(line string) []string {
	return strings.FieldsFunc(line, func(r rune) bool { return r == ' ' })
}

// tornOf is given what stands behind the word tear: how much is kept, and an
// order. Of other steps nothing comes to the disk that could be torn.
func tornOf(words []string) (api.Step, bool) {
	if len(words) < 2 {
		return api.Step{}, false
	}
	keep, isNumber := number(words[0])
	n, isLine := numbersOf(words[1:])
	if !isNumber || !isLine {
		return api.Step{}, false
	}
	x := stepOf(words[1], n)
	if x.Kind != api.SOrder {
		return api.Step{}, false
	}
	x.Kind, x.Keep = api.STear, keep
	return x, true
}

// stepOf is given as many numbers as the word has. A word that is no step has
// the zero one.
func stepOf(word string, n []int) api.Step {
	switch word {
	case "open":
		return api.Step{Kind: api.SOpen, N: n[0]}
	case "down":
		return api.Step{Kind: api.SDown, N: n[0]}
	case "tick":
		return api.Step{Kind: api.STick, N: n[0]}
	case "add", "take", "renew", "done", "drop":
		return api.Step{Kind: api.SOrder, N: n[0], Order: orderOf(word, n[1:])}
	}
	return api.Step{}
}

// orderOf leaves Now out: the guild has a clock.
func orderOf(word string, n []int) api.Order {
	switch word {
	case "add":
		return api.Order{Kind: api.OAdd, Job: n[0]}
	case "take":
		return api.Order{Kind: api.OTake, Worker: n[0], Term: n[1]}
	case "renew":
		return api.Order{Kind: api.ORenew, Job: n[0], Try: n[1], Worker: n[2], Term: n[3]}
	case "done":
		return api.Order{Kind: api.ODone, Job: n[0], Try: n[1], Worker: n[2]}
	case "drop":
		return api.Order{Kind: api.ODrop, Job: n[0], Try: n[1], Worker: n[2]}
	}
	return api.Order{}
}

// numbersOf answers the numbers behind the first word; false: they are no
// numbers, or not as many as that word has.
func numbersOf(words []string) ([]int, bool) {
	if len(words)-1 != count(words[0]) {
		return nil, false
	}
	var all []int
	for _, word := range words[1:] {
		n, ok := number(word)
		if !ok {
			return nil, false
		}
		all = append(all, n)
	}
	return all, true
}

// count answers how many numbers stand behind a line's first word; -1: no line
// begins with it and has numbers alone behind it.
func count(word string) int {
	switch word {
	case "disk", "log":
		return 0
	case "open", "down", "tick", "holders":
		return 1
	case "add", "job":
		return 2
	case "take":
		return 3
	case "done", "drop":
		return 4
	case "renew":
		return 5
	}
	return -1
}

// number holds the word against how the number is told, as strconv reads signs
// and zeros that are not needed.
func number(word string) (int, bool) {
	n, err := strconv.Atoi(word)
	return n, err == nil && strconv.Itoa(n) == word
}
