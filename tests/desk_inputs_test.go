package tests

import (
	"fmt"
	"math/rand/v2"
	"slices"
	"strings"

	"loop.example/g03230/impl"
)

// aloneWords are the commands that name nothing, givenWords those that name
// something.
var (
	aloneWords = []string{"line", "cast", "ragged", "sweep", "stock", "strays", "show", "breaks", "best", "run"}
	givenWords = []string{"key", "drop", "wear", "measure", "set", "put"}
)

// goodNumbers and badNumbers are texts that are, and are not, one decimal number
// in the range of int.
var (
	goodNumbers = []string{"0", "1", "-1", "7", "10", "-10", "100", "-909", "9223372036854775807", "9223372036854775806", "-9223372036854775808", "-9223372036854775807", "4294967296", "-2147483649"}
	badNumbers  = []string{"-", "--1", "-0", "00", "01", "-01", "007", "+1", "+0", "+", "1-", "1.0", "1,", "1e3", "0x1", "1_0", "a", "1a", "a1", "\t1", "1\t", "1\n", "\n1", "\x00", "1\x00", "\xff", "\u0661", "\uff11", "\u00bd", "1\u00a01", "\u22121", "9223372036854775808", "9223372036854775809", "-9223372036854775809", "-9223372036854775810", "18446744073709551615", "18446744073709551616", "18446744073709551617", "99999999999999999999999999", "-99999999999999999999999999"}
)

// numberTexts returns texts of up to five bytes of few, and longer ones.
func numberTexts() []string {
	texts := []string{""}
	for from := 0; len(texts[from]) < 5; from++ {
		for _, next := range []string{"0", "1", "9", "-", "+", " "} {
			texts = append(texts, texts[from]+next)
		}
	}
	for _, number := range slices.Concat(goodNumbers, badNumbers) {
		texts = append(texts, number, number+" ", " "+number, number+"  "+number, "0 "+number, number+" 0", number+" "+number+" "+number)
	}
	return append(texts, words("-12", 500), words("1", 500)+" ", words("1", 250)+"  "+words("1", 250), strings.Repeat("9", 5000), "1\t2", "1\n2", "1,2", "[1 2]")
}

// linesThatAreNone returns lines that are next to a command.
func linesThatAreNone() []string {
	lines := []string{"", " ", "  ", "\n", "\t", "\x00", "\xff", "what", "no", "bad", "ok", "hello", "lin", "lines", "castragged", "cast\x00", "\u00a0", "0", "1 2 3"}
	for _, word := range aloneWords {
		lines = append(lines, word+" ", word+"  ", " "+word, word+" 0", word+" 1", word+" "+word, word+"\n", word+"\t", word+"\u00a0", strings.ToUpper(word), strings.ToUpper(word[:1])+word[1:], word[:len(word)-1], word+word[:1])
	}
	for _, word := range givenWords {
		for _, rest := range []string{"a", "0", "0 a", "1 2 3", "0 0 0"} {
			lines = append(lines, strings.ToUpper(word)+" "+rest, strings.ToUpper(word[:1])+word[1:]+" "+rest, " "+word+" "+rest, word+"\t"+rest, word+"\n"+rest, word+"\u00a0"+rest, word[1:]+" "+rest, word+rest, word+"s "+rest)
		}
		lines = append(lines, word, word+"\n")
	}
	for _, rest := range []string{"", " ", "  ", "0 ", " 0", "0  ", "0 0", "0 0 ", "0  0 0", "0 0 0 ", " 0 0 0", "0 0 0 0", "0 0 0 0 0", "0\t0\t0", "a", "0 0 a", "1 2 3\n"} {
		lines = append(lines, "drop "+rest, "wear "+rest, "measure "+rest)
	}
	for _, bad := range badNumbers {
		lines = append(lines, "drop "+bad, "wear 0 0 "+bad, "wear 0 "+bad+" 0", "wear "+bad+" 0 0", "measure "+bad+" 2 8", "measure 60 "+bad+" 8", "measure 60 2 "+bad, "put "+bad+" a", "put "+bad+" ", "put "+bad)
	}
	for _, rest := range []string{"", " ", "  ", " 0", " 0 a", "  a", "0", "1", "-1", "a", "a 0", "a a", "0\ta", "0\na"} {
		lines = append(lines, "put "+rest)
	}
	return lines
}

// commandsFor returns lines that are commands, with numbers up to the extremes and
// with texts of all kinds.
func commandsFor(random *rand.Rand, d impl.Desk) []string {
	f, m := d.Machine.Font, d.Machine.Measure
	lines := slices.Clone(aloneWords)
	for _, text := range append(textsFor(random, f, 6), "", " ", "  ") {
		lines = append(lines, "key "+text, "set "+text, "put 0 "+text)
	}
	for _, n := range append(some(extremes), -1, 0, 1, 2, 7, len(d.Machine.Waiting), 240, 241) {
		lines = append(lines, fmt.Sprint("drop ", n), fmt.Sprintf("put %d ", n), fmt.Sprintf("put %d %s", n, f.Letters))
		lines = append(lines, fmt.Sprintf("wear %d 0 1", n), fmt.Sprintf("wear 0 %d 1", n), fmt.Sprintf("wear 0 0 %d", n))
		lines = append(lines, fmt.Sprintf("measure %d %d %d", n, m.Thin, m.Thick), fmt.Sprintf("measure %d %d %d", m.Width, n, m.Thick), fmt.Sprintf("measure %d %d %d", m.Width, m.Thin, n))
	}
	for range 25 {
		lines = append(lines, commandFor(random, d))
	}
	return lines
}

// commandFor returns a command that the desk may well perform.
func commandFor(random *rand.Rand, d impl.Desk) string {
	f := d.Machine.Font
	n := len(refWords(refGalleyText(d.Galley)))
	switch random.IntN(12) {
	case 0, 1:
		return "key " + randomWording(random, f, pick(random, 2, 8))
	case 2:
		return "set " + randomWording(random, f, pick(random, 2, 8, 40))
	case 3:
		return fmt.Sprintf("put %d %s", random.IntN(n+1), pick(random, "", " ", randomWording(random, f, 3)))
	case 4:
		return fmt.Sprint("drop ", pick(random, 0, 1, 3, 240))
	case 5, 6:
		return wearFor(random, d.Machine)
	case 7:
		return measureFor(random, d.Machine)
	case 8, 9:
		return pick(random, "run", "cast", "ragged")
	default:
		return pick(random, aloneWords...)
	}
}

// wearFor takes a tooth from a matrix that has it, if there is one in the channel.
func wearFor(random *rand.Rand, x impl.Machine) string {
	channel := random.IntN(len(x.Magazine))
	i, tooth := 0, random.IntN(7)
	if n := len(x.Magazine[channel]); n > 0 {
		i = random.IntN(n)
		for x.Magazine[channel][i].Teeth>>tooth&1 == 0 && random.IntN(30) > 0 {
			tooth = random.IntN(7)
		}
	}
	return fmt.Sprintf("wear %d %d %d", channel, i, tooth)
}

// measureFor changes the measure a little, or makes it one at which the Line is
// full or just too wide.
func measureFor(random *rand.Rand, x impl.Machine) string {
	m := x.Measure
	least := refWidth(refItemsOf(x), m.Thin)
	width := pick(random, m.Width, m.Width, m.Width+1, least-1, least, least+random.IntN(60))
	return fmt.Sprintf("measure %d %d %d", width, m.Thin, m.Thick+random.IntN(3)-1)
}

// desksFor returns three desks without a galley and at most n with one.
func desksFor(random *rand.Rand, f impl.Font, n int) []impl.Desk {
	x, _ := refNew(f, 10, 20, measure(60, 2, 8))
	list := []impl.Desk{{Machine: x}, {Machine: x, Galley: []string{}}, {Machine: randomMachine(random, f)}}
	texts := wordingsFor(random, f, 20)
	for range n {
		text := pick(random, texts...)
		y := machineFor(random, f, pick(random, fewMeasures(random, f, text)...))
		if random.IntN(4) == 0 {
			y = randomMachine(random, f)
			y.Measure.Width += random.IntN(100)
		}
		if random.IntN(6) == 0 {
			y.Magazine = crowdedMagazine(random, f)
		}
		if galleys := galleysFor(random, f, y.Measure, text, 2); len(galleys) > 0 {
			list = append(list, impl.Desk{Machine: y, Galley: pick(random, galleys...)})
		}
	}
	return slices.DeleteFunc(list, func(d impl.Desk) bool { return !refDeskOk(d) })
}

// crowdedMagazine has a channel without the room for a stray that belongs there,
// if the font has more than one letter.
func crowdedMagazine(random *rand.Rand, f impl.Font) [][]impl.Matrix {
	m := make([][]impl.Matrix, len(f.Codes))
	kind, other := random.IntN(len(m)), random.IntN(len(m))
	worn := of(kind, f.Codes[kind]&random.IntN(128))
	m[other] = append(randomMatrices(random, f, 3), worn)
	m[kind] = append(slices.Repeat([]impl.Matrix{worn}, 10), slices.Repeat([]impl.Matrix{of(kind, f.Codes[kind])}, 10)...)
	return m
}

// badDesks returns what is no desk, in its machine or in its galley.
func badDesks() []impl.Desk {
	galley := []string{"ab c", "ab"}
	x := twoOfEach(3, measure(20, 2, 6))
	var bad []impl.Desk
	for _, y := range badMachines() {
		bad = append(bad, impl.Desk{Machine: y}, impl.Desk{Machine: y, Galley: galley})
	}
	for _, list := range [][]string{{""}, {"", ""}, {" "}, {"ab", "c ab"}, {"ab c", "ab", ""}, {"ab  c", "ab"}, {"ab c ", "ab"}, {"ab c", "abd"}, {"ab c\n", "ab"}, {"ab c\xff", "ab"}, slices.Repeat([]string{"ccb"}, 1000)} {
		bad = append(bad, impl.Desk{Machine: x, Galley: list})
	}
	for _, m := range append(badMeasures(), measure(22, 2, 6), measure(20, 2, 4), measure(16, 2, 6)) {
		y := x
		y.Measure = m
		bad = append(bad, impl.Desk{Machine: y, Galley: galley})
	}
	return append(bad, impl.Desk{Machine: refNewDesk().Machine, Galley: galley}, impl.Desk{Galley: galley})
}

// randomScript returns lines that come one after the other from a new desk.
func randomScript(random *rand.Rand, n int) []string {
	d := refNewDesk()
	none := linesThatAreNone()
	var lines []string
	for range n {
		line := commandFor(random, d)
		if random.IntN(12) == 0 {
			line = strings.ReplaceAll(pick(random, none...), "\n", "")
		}
		d, _ = refRunLine(d, line)
		lines = append(lines, line)
	}
	return lines
}
