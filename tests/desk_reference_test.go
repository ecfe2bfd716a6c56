package tests

import (
	"fmt"
	"math/big"
	"regexp"
	"strings"

	"loop.example/g03230/impl"
)

// The reference follows the sentences of chapter 8 with whole lines and patterns,
// on the reference of the chapters before.

func refFormat(list []int) string { return strings.Trim(fmt.Sprint(list), "[]") }

var decimalNumber = regexp.MustCompile(`^(0|-?[1-9][0-9]*)\z`)

func refParse(text string) ([]int, bool) {
	if text == "" {
		return nil, true
	}
	var list []int
	for _, number := range strings.Split(text, " ") {
		n, ok := new(big.Int).SetString(number, 10)
		if !decimalNumber.MatchString(number) || !ok || !n.IsInt64() {
			return nil, false
		}
		list = append(list, int(n.Int64()))
	}
	return list, true
}

func refDeskOk(d impl.Desk) bool {
	x := d.Machine
	return refMachineOk(x) && (len(d.Galley) == 0 || refGalleyOk(x.Font, x.Measure, d.Galley))
}

func refNewDesk() impl.Desk {
	f := impl.Font{Letters: "aeinost", Widths: []int{5, 5, 3, 6, 6, 5, 4}, Codes: []int{3, 5, 6, 9, 10, 12, 17}}
	x, _ := refNew(f, 10, 20, measure(60, 2, 8))
	return impl.Desk{Machine: x}
}

// refWidths returns the widths of the words of the galley.
func refWidths(d impl.Desk) []int {
	widths, _ := refWordWidths(d.Machine.Font, refGalleyText(d.Galley))
	return widths
}

// refFirstBest takes again and again the shortest line with which the cost is
// still the least.
func refFirstBest(m impl.Measure, words []int) []int {
	var lines []int
	_, left := refForward(m, words)
	for from, to := 0, 1; from < len(words); to++ {
		kind, cost := refKind(m, words, from, to), 0
		if to < len(words) {
			rise := refRise(m, words[from:to])
			cost = rise * rise
		}
		n, behind := refForward(m, words[to:])
		if n > 0 && (kind == 2 || kind == 1 && to == len(words)) && cost+behind == left {
			lines = append(lines, to-from)
			from, left = to, behind
		}
	}
	return lines
}

func refRunLine(d impl.Desk, line string) (impl.Desk, string) {
	if !refDeskOk(d) {
		return d, "bad"
	}
	after, answer, ok := refTold(d, line)
	if answer == "what" {
		after, answer, ok = refDone(d, line)
	}
	if answer == "what" {
		after, answer, ok = refGiven(d, line)
	}
	if answer == "what" {
		return d, "what"
	}
	if !ok {
		return d, "no"
	}
	return after, answer
}

// refTold performs the lines that leave the desk as it is. It, and the two below,
// answer `what` to all others.
func refTold(d impl.Desk, line string) (impl.Desk, string, bool) {
	x := d.Machine
	switch line {
	case "line":
		rise, rest, _ := refSpread(x.Measure, refItemsOf(x))
		return d, fmt.Sprintf("%s | %d %d", refLineText(x), rise, rest), true
	case "stock":
		return d, refFormat(refCountAll(x)), true
	case "strays":
		_, strays, worn := refCounts(x.Font, x.Magazine)
		return d, fmt.Sprintf("%d %d", strays, worn), true
	case "show":
		return d, strings.Join(d.Galley, "|"), len(d.Galley) > 0
	case "breaks":
		n, _ := refForward(x.Measure, refWidths(d))
		return d, fmt.Sprint(n), len(d.Galley) > 0
	case "best":
		return d, refFormat(refFirstBest(x.Measure, refWidths(d))), len(d.Galley) > 0
	}
	return d, "what", false
}

// refDone performs the lines without a blank that change the desk.
func refDone(d impl.Desk, line string) (impl.Desk, string, bool) {
	text, ok, strays := "", false, 0
	var faults []int
	switch line {
	case "cast", "ragged":
		d.Machine, text, _, ok = refCast(d.Machine, line == "ragged")
		return d, `"` + text + `"`, ok
	case "sweep":
		d.Machine.Magazine, strays, ok = refSweep(d.Machine.Font, d.Machine.Magazine)
		return d, fmt.Sprint(strays), ok
	case "run":
		d.Machine, faults, ok = refCastGalley(d.Machine, d.Galley)
		if len(faults) == 0 {
			return d, "clean", ok
		}
		return d, refFormat(faults), ok
	}
	return d, "what", false
}

var correctingLine = regexp.MustCompile(`(?s)^put ([^ ]+) (.*)\z`)

// refGiven performs the lines with a rest.
func refGiven(d impl.Desk, line string) (impl.Desk, string, bool) {
	word, rest, _ := strings.Cut(line, " ")
	numbers, _ := refParse(rest)
	x, n, ok := d.Machine, 0, false
	switch shape := fmt.Sprint(word, len(numbers)); {
	case strings.HasPrefix(line, "key "):
		d.Machine, n = refKeyText(x, line[4:])
		return d, fmt.Sprint(n), true
	case strings.HasPrefix(line, "set "):
		d.Galley, ok = refSetGalley(x.Font, x.Measure, line[4:])
		return d, fmt.Sprint(len(d.Galley)), ok
	case correctingLine.MatchString(line):
		parts := correctingLine.FindStringSubmatch(line)
		index, isNumber := refParse(parts[1])
		if !isNumber {
			return d, "what", false
		}
		before := d.Galley
		d.Galley, ok = refReplace(x.Font, x.Measure, d.Galley, index[0], parts[2])
		return d, refMarks(before, d.Galley), ok
	case shape == "drop1":
		d.Machine, n = refDropWaiting(x, numbers[0])
		return d, fmt.Sprint(n), numbers[0] >= 0
	case shape == "wear3":
		d.Machine, ok = refWearMachine(x, numbers[0], numbers[1], numbers[2])
		return d, "ok", ok
	case shape == "measure3":
		d.Machine.Measure, d.Galley = measure(numbers[0], numbers[1], numbers[2]), nil
		return d, "ok", refMachineOk(d.Machine)
	}
	return d, "what", false
}

func refRunScript(text string) (string, int) {
	lines := strings.SplitAfter(text, "\n")
	if lines[len(lines)-1] == "" {
		lines = lines[:len(lines)-1]
	}
	if len(lines) > 60 {
		return "", -1
	}
	d, answers := refNewDesk(), ""
	for _, line := range lines {
		after, answer := refRunLine(d, strings.TrimSuffix(line, "\n"))
		d, answers = after, answers+answer+"\n"
	}
	return answers, len(lines)
}
