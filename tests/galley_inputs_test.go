package tests

import (
	"math/rand/v2"
	"slices"
	"strings"

	"loop.example/g03230/impl"
)

// galleyFonts has a font, too, in which each letter is a word of the texts that
// were worked out for chapter 5.
func galleyFonts() []impl.Font {
	return append(machineFonts(), impl.Font{Letters: "axw", Widths: []int{2, 6, 60}, Codes: []int{1, 2, 4}})
}

func words(word string, n int) string { return strings.Join(slices.Repeat([]string{word}, n), " ") }

// wordOfWidth returns a word of one or two letters of the font, again and again,
// and the empty string if there is none.
func wordOfWidth(f impl.Font, width int) string {
	for i, w := range f.Widths {
		for j, v := range f.Widths {
			for n := 0; n*w <= width; n++ {
				if (width-n*w)%v == 0 {
					return strings.Repeat(f.Letters[i:i+1], n) + strings.Repeat(f.Letters[j:j+1], (width-n*w)/v)
				}
			}
		}
	}
	return ""
}

// wordingsFor returns texts with one and with several blanks between words and at
// both ends, of one word and of up to MaxWords, and with words that are as wide as
// MaxMeasure.
func wordingsFor(random *rand.Rand, f impl.Font, n int) []string {
	first, last := f.Letters[:1], f.Letters[len(f.Letters)-1:]
	texts := []string{first, last, " " + first, last + "  ", "   " + first + last + "    " + last + " ", f.Letters[:min(len(f.Letters), 30)], words(first, 6), words(first, 39), words(last, 40), " " + words(first+"  ", 40)}
	if widest := wordOfWidth(f, 2000); widest != "" {
		texts = append(texts, widest, first+"  "+widest)
	}
	for range n {
		texts = append(texts, randomWording(random, f, pick(random, 2, 8, 40)))
	}
	return texts
}

func randomWording(random *rand.Rand, f impl.Font, most int) string {
	text := strings.Repeat(" ", random.IntN(2))
	longest, kinds := pick(random, 1, 3, 8), 1+random.IntN(min(3, len(f.Letters)))
	for range 1 + random.IntN(most) {
		for range 1 + random.IntN(longest) {
			kind := random.IntN(kinds)
			text += f.Letters[kind : kind+1]
		}
		text += strings.Repeat(" ", 1+random.IntN(8)/7)
	}
	return text[:len(text)-random.IntN(2)]
}

// noWordings returns what chapter 7 names as no wording, each with one fault: no
// words, too many, too wide ones, and bytes that are neither blanks nor letters.
func noWordings(f impl.Font) []string {
	a := f.Letters[:1]
	texts := []string{"", " ", "      ", words(a, 41), words(a+" ", 41), words(a, 1000), strings.Repeat(a, 2001), "  " + a + " " + strings.Repeat(a, 4000)}
	if wider := wordOfWidth(f, 2001); wider != "" {
		texts = append(texts, wider, wider+" "+a)
	}
	for _, no := range []string{"\t", "\n", "\r", "\v", "\x00", "\x7f", "\x80", "\x85", "\xa0", "\xff", "\u00a0", "\u0085", "\u2003", "\u3000", "\u00e9", "\xc3", "\ufffd", string(rune(a[0]) + 256), string([]byte{a[0] | 128})} {
		texts = append(texts, no, a+no, no+" "+a, a+no+a, a+" "+no+" "+a, a+"\xc3"+a)
	}
	for i := range allLetters {
		if !strings.Contains(f.Letters, allLetters[i:i+1]) {
			texts = append(texts, allLetters[i:i+1], a+" "+a+allLetters[i:i+1])
		}
	}
	return texts
}

// measuresForWording returns measures for the words of the text, or some if it
// is no wording.
func measuresForWording(random *rand.Rand, f impl.Font, text string) []impl.Measure {
	widths, ok := refWordWidths(f, text)
	if !ok {
		return []impl.Measure{measure(20, 2, 6), measure(2000, 1, 100)}
	}
	return measuresForText(random, widths)
}

func fewMeasures(random *rand.Rand, f impl.Font, text string) []impl.Measure {
	list := measuresForWording(random, f, text)
	few := []impl.Measure{measure(2000, 1, 100)}
	for range 6 {
		few = append(few, pick(random, list...))
	}
	return few
}

// someBreaking returns one of the breakings by going on as it may, at random.
func someBreaking(random *rand.Rand, m impl.Measure, widths []int) ([]int, bool) {
	ends := make([][]int, len(widths)+1)
	ends[len(widths)] = []int{len(widths)}
	for from := len(widths) - 1; from >= 0; from-- {
		for to := from + 1; to <= len(widths); to++ {
			kind := refKind(m, widths, from, to)
			if len(ends[to]) > 0 && (kind == 2 || kind == 1 && to == len(widths)) {
				ends[from] = append(ends[from], to)
			}
		}
	}
	var breaking []int
	for from := 0; from < len(widths); {
		if len(ends[from]) == 0 {
			return nil, false
		}
		to := pick(random, ends[from]...)
		breaking = append(breaking, to-from)
		from = to
	}
	return breaking, true
}

// galleysFor returns galleys of the words of the text, the greedy one and others,
// if there are any.
func galleysFor(random *rand.Rand, f impl.Font, m impl.Measure, text string, n int) [][]string {
	var galleys [][]string
	if galley, ok := refSetGalley(f, m, text); ok {
		galleys = append(galleys, galley)
	}
	widths, _ := refWordWidths(f, text)
	for range n {
		if breaking, ok := someBreaking(random, m, widths); ok && refTextOk(widths) {
			galleys = append(galleys, refLines(refWords(text), breaking))
		}
	}
	return galleys
}

// spoiledGalleys returns lists of strings that differ from the galley in one
// place: some of them may be galleys, too.
func spoiledGalleys(random *rand.Rand, galley []string) [][]string {
	lists := [][]string{nil, {}, {""}, {" "}, galley[1:], galley[:len(galley)-1], append([]string{""}, galley...), append(slices.Clone(galley), ""), slices.Concat(galley, galley), {refGalleyText(galley)}}
	i := random.IntN(len(galley))
	line := galley[i]
	for _, other := range []string{"", " ", line + " ", " " + line, strings.Replace(line, " ", "  ", 1), strings.Replace(line, " ", "", 1), strings.Replace(line, " ", "\t", 1), strings.Replace(line, " ", "\u00a0", 1), line + "\n", line + "\xff", line[1:], line + line, line + " " + line} {
		list := slices.Clone(galley)
		list[i] = other
		lists = append(lists, list)
	}
	lists = append(lists, slices.Insert(slices.Clone(galley), i, ""), slices.Insert(slices.Clone(galley), i, line), slices.Delete(slices.Clone(galley), i, i+1))
	if at := strings.IndexByte(line, ' '); at > 0 {
		lists = append(lists, slices.Replace(slices.Clone(galley), i, i+1, line[:at], line[at+1:]))
		lists = append(lists, slices.Replace(slices.Clone(galley), i, i+1, line[:at], line[at:]))
	}
	if i > 0 {
		lists = append(lists, slices.Replace(slices.Clone(galley), i-1, i+1, galley[i-1]+" "+line))
	}
	return lists
}

// stringLists returns all lists of at most three of few strings, and longer ones
// that repeat them.
func stringLists() [][]string {
	var lists [][]string
	for _, list := range append(shortLists([]int{0, 1, 2}), repeated(0, 4), repeated(0, 7), []int{0, 1, 0, 1}, []int{0, 1, 0, 1, 0}, []int{0, 0, 1, 0}, []int{0, 1, 2, 1, 0}, []int{0, 0, 1, 1, 0, 0}) {
		var lines []string
		for _, n := range list {
			lines = append(lines, []string{"x", "", "\xff y"}[n])
		}
		lists = append(lists, lines)
	}
	return lists
}
