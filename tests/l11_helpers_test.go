package tests

import (
	"fmt"
	"regexp"
	"slices"
	"strconv"
	"strings"
	"testing"

	"loop.example/g01348/impl"
)

// The helpers of this file follow the table of chapter 11 row by row. They use no function of layer
// 11, and those of the other layers only where the table names them.

// words11 has the words of a line behind its command.
type words11 struct {
	text string
	n    []int64
}

// row11 is a row of the table: a line as it is written there, and what it does to a desk. Its run
// returns the desk after it, the output, and the code of a function.
type row11 struct {
	line    string
	pattern *regexp.Regexp
	run     func(d impl.Desk, w words11) (impl.Desk, string, int64)
}

// newRow11 returns a row with a pattern of all lines of its kind.
func newRow11(line string, run func(d impl.Desk, w words11) (impl.Desk, string, int64)) row11 {
	const number = ` (?:0|[1-9][0-9]{0,8})`
	words := strings.Split(line, " ")
	pattern := words[0]
	for _, word := range words[1:] {
		switch word {
		case "TEXT":
			pattern += ` [^ ]+`
		case "N..":
			pattern += `(?:` + number + `)*`
		default:
			pattern += number
		}
	}
	return row11{line, regexp.MustCompile(`\A` + pattern + `\z`), run}
}

// complexRow returns a row that gives K a complex.
func complexRow(line string, run func(d impl.Desk, w words11) (impl.Complex, int64)) row11 {
	return newRow11(line, func(d impl.Desk, w words11) (impl.Desk, string, int64) {
		k, code := run(d, w)
		text, _ := impl.ComplexText(k)
		return impl.Desk{Complex: k}, text, code
	})
}

// pairingRow returns a row that gives P a pairing.
func pairingRow(line string, run func(k impl.Complex, p []impl.Pair, n []int64) ([]impl.Pair, int64)) row11 {
	return newRow11(line, func(d impl.Desk, w words11) (impl.Desk, string, int64) {
		list, code := run(d.Complex, d.Pairing, w.n)
		return impl.Desk{Complex: d.Complex, Pairing: list}, pairsByRule(list), code
	})
}

// outputRow returns a row that only puts something out.
func outputRow[T any](line string, textOf func(T) string, run func(k impl.Complex, p []impl.Pair, n []int64) (T, int64)) row11 {
	return newRow11(line, func(d impl.Desk, w words11) (impl.Desk, string, int64) {
		result, code := run(d.Complex, d.Pairing, w.n)
		return d, textOf(result), code
	})
}

// pairsByRule returns the text of a pairing.
func pairsByRule(list []impl.Pair) string {
	text := ""
	for _, p := range list {
		text += fmt.Sprintf(",%d>%d", p[0], p[1])
	}
	if text == "" {
		return "none"
	}
	return text[1:]
}

// numberByRule returns the text of a number.
func numberByRule(number int64) string { return fmt.Sprint(number) }

// answerByRule returns the text of an answer.
func answerByRule(answer bool) string { return map[bool]string{true: "yes", false: "no"}[answer] }

// numbersByRule returns the text of a list of numbers.
func numbersByRule(list []int64) string {
	if len(list) == 0 {
		return "none"
	}
	return strings.Trim(fmt.Sprint(list), "[]")
}

// rowsByRule returns the text of rows.
func rowsByRule(rows [][]int64) string {
	text := ""
	for _, row := range rows {
		text += ";" + strings.ReplaceAll(strings.Trim(fmt.Sprint(row), "[]"), " ", ",")
	}
	if len(rows) == 0 {
		return "none"
	}
	return text[1:]
}

// changingRows returns the rows of the table that change a part of the desk.
func changingRows() []row11 {
	type list = []int64
	type pairs = []impl.Pair
	return []row11{
		complexRow("complex TEXT", func(d impl.Desk, w words11) (impl.Complex, int64) { return impl.ParseComplex(w.text) }),
		complexRow("name TEXT", func(d impl.Desk, w words11) (impl.Complex, int64) { return impl.NamedComplex(w.text) }),
		complexRow("cone", func(d impl.Desk, w words11) (impl.Complex, int64) { return impl.ConeOf(d.Complex) }),
		complexRow("link A", func(d impl.Desk, w words11) (impl.Complex, int64) { return impl.LinkOf(d.Complex, w.n[0]) }),
		complexRow("skeleton D", func(d impl.Desk, w words11) (impl.Complex, int64) { return impl.SkeletonOf(d.Complex, w.n[0]) }),
		complexRow("take A", func(d impl.Desk, w words11) (impl.Complex, int64) { return impl.TakeFace(d.Complex, w.n[0]) }),
		complexRow("level C", func(d impl.Desk, w words11) (impl.Complex, int64) {
			flat, code := impl.FlatFunction(d.Complex, d.Pairing)
			if code != impl.ErrNone {
				return impl.Complex{}, code
			}
			return impl.LevelAt(d.Complex, flat, w.n[0])
		}),
		pairingRow("pair A B", func(k impl.Complex, p pairs, n list) (pairs, int64) {
			return impl.AddPair(k, p, impl.Pair{n[0], n[1]})
		}),
		pairingRow("clear", func(k impl.Complex, p pairs, n list) (pairs, int64) { return nil, impl.ErrNone }),
		pairingRow("greedy", func(k impl.Complex, p pairs, n list) (pairs, int64) { return impl.GreedyPairing(k) }),
		pairingRow("fill", func(k impl.Complex, p pairs, n list) (pairs, int64) { return impl.FillPairing(k, p) }),
		pairingRow("best", func(k impl.Complex, p pairs, n list) (pairs, int64) { return impl.BestPairing(k) }),
		pairingRow("cancel B A", func(k impl.Complex, p pairs, n list) (pairs, int64) { return impl.CancelFaces(k, p, n[0], n[1]) }),
		pairingRow("tree N..", func(k impl.Complex, p pairs, n list) (pairs, int64) { return impl.PairingOfTree(k, n) }),
		newRow11("reset", func(d impl.Desk, w words11) (impl.Desk, string, int64) { return circleDesk(), "ok", impl.ErrNone }),
	}
}

// tellingRows returns the rows of the table that do nothing but put something out.
func tellingRows() []row11 {
	type list = []int64
	type pairs = []impl.Pair
	return []row11{
		outputRow("show", strings.Clone, func(k impl.Complex, p pairs, n list) (string, int64) { return impl.ComplexText(k) }),
		outputRow("look", pairsByRule, func(k impl.Complex, p pairs, n list) (pairs, int64) { return p, impl.ErrNone }),
		outputRow("faces", numbersByRule, func(k impl.Complex, p pairs, n list) (list, int64) { return impl.CountFaces(k) }),
		outputRow("euler", numberByRule, func(k impl.Complex, p pairs, n list) (int64, int64) { return impl.EulerNumber(k) }),
		outputRow("critical", numbersByRule, func(k impl.Complex, p pairs, n list) (list, int64) { return impl.CriticalFaces(k, p) }),
		outputRow("numbers", numbersByRule, func(k impl.Complex, p pairs, n list) (list, int64) { return impl.CriticalNumbers(k, p) }),
		outputRow("order", numbersByRule, func(k impl.Complex, p pairs, n list) (list, int64) { return impl.OrderOfPairing(k, p) }),
		outputRow("reached A", numbersByRule, func(k impl.Complex, p pairs, n list) (list, int64) { return impl.FacesReached(k, p, n[0]) }),
		outputRow("betti N", numbersByRule, func(k impl.Complex, p pairs, n list) (list, int64) { return impl.BettiNumbers(k, n[0]) }),
		outputRow("flat", numbersByRule, func(k impl.Complex, p pairs, n list) (list, int64) { return impl.FlatFunction(k, p) }),
		outputRow("collapsible", answerByRule, func(k impl.Complex, p pairs, n list) (bool, int64) { return impl.IsCollapsible(k) }),
		outputRow("ways B A", numberByRule, func(k impl.Complex, p pairs, n list) (int64, int64) { return impl.WaysBetween(k, p, n[0], n[1]) }),
		outputRow("boundary D", rowsByRule, func(k impl.Complex, p pairs, n list) ([]list, int64) { return impl.MorseBoundary(k, p, n[0]) }),
		outputRow("end N..", numbersByRule, func(k impl.Complex, p pairs, n list) (list, int64) { return impl.EndOfFlow(k, p, n) }),
		outputRow("full", answerByRule, func(k impl.Complex, p pairs, n list) (bool, int64) { return impl.IsFullPairing(k, p) }),
		outputRow("perfect", answerByRule, func(k impl.Complex, p pairs, n list) (bool, int64) { return impl.IsPerfect(k, p) }),
		outputRow("least", numberByRule, func(k impl.Complex, p pairs, n list) (int64, int64) { return impl.LeastCritical(k) }),
		outputRow("questions", numberByRule, func(k impl.Complex, p pairs, n list) (int64, int64) { return impl.QuestionNumber(k) }),
		outputRow("evasive", answerByRule, func(k impl.Complex, p pairs, n list) (bool, int64) { return impl.IsEvasive(k) }),
		outputRow("evaders N..", numbersByRule, func(k impl.Complex, p pairs, n list) (list, int64) { return impl.EvadersOf(k, n) }),
		outputRow("fewest", numberByRule, func(k impl.Complex, p pairs, n list) (int64, int64) { return impl.LeastEvaders(k) }),
	}
}

// table11 is the table.
var table11 = slices.Concat(changingRows(), tellingRows())

// wordsIn returns the words of a line behind its command, as a text and as numbers.
func wordsIn(line string) words11 {
	_, text, _ := strings.Cut(line, " ")
	w := words11{text: text}
	for _, word := range strings.Split(text, " ") {
		if number, err := strconv.Atoi(word); err == nil {
			w.n = append(w.n, int64(number))
		}
	}
	return w
}

// lineByRule returns the desk after a line and the output.
func lineByRule(d impl.Desk, line string) (impl.Desk, string) {
	for _, row := range table11 {
		if !row.pattern.MatchString(line) {
			continue
		}
		if after, output, code := row.run(d, wordsIn(line)); code == impl.ErrNone {
			return after, output
		}
	}
	return d, "error"
}

// circleDesk returns the new desk.
func circleDesk() impl.Desk { return impl.Desk{Complex: complexOn(3, 1, 2, 3, 4, 5, 6)} }

// sameDesk reports whether two desks are equal.
func sameDesk(d, e impl.Desk) bool {
	return sameComplex(d.Complex, e.Complex) && slices.Equal(d.Pairing, e.Pairing)
}

// scatteredLine returns a line of a row for a desk that a fixed rule scatters, one that often has no error.
func scatteredLine(state *uint32, row row11, d impl.Desk) string {
	command, rest, _ := strings.Cut(row.line, " ")
	switch rest {
	case "":
		return command
	case "TEXT":
		return command + " " + scatteredText(state, command)
	}
	var numbers []int64
	switch command {
	case "pair":
		numbers = scatteredOf(state, allPairs(d.Complex))
	case "cancel", "ways":
		numbers = scatteredOf(state, criticalPairs(d))
	case "tree", "evaders":
		numbers = scatteredTree(state, numbersBelow(d.Complex.Vertices))
	case "end":
		numbers = slices.DeleteFunc(facesAt(d.Complex, int64(scattered(state, 4))), func(int64) bool { return scattered(state, 2) == 0 })
	case "skeleton", "betti", "boundary":
		numbers = []int64{int64(scattered(state, 7))}
	case "level":
		numbers = []int64{int64(scattered(state, len(d.Complex.Faces)+3))}
	default:
		faces := append(slices.Clone(d.Complex.Faces), 0, 64)
		numbers = []int64{faces[scattered(state, len(faces))]}
	}
	return command + wordsOf(spoiltList(state, numbers))
}

// scatteredText returns a text for the command complex or name, rarely one of no complex.
func scatteredText(state *uint32, command string) string {
	names := []string{"point", "circle", "square", "sphere", "ball", "bipyramid", "octahedron", "moebius", "projective", "wedge", "tree", "cube"}
	texts := []string{"1:", "1:0", "2:0,1", "2:01", "3:", "3:012", "4:012,23", "4:012,013,023", "5:01,23", "5:0123,34", "6:012,123,345", "6:0123,014,24", "6:01", "6:01,0", "3:03", "7:0"}
	if command == "name" {
		return names[scattered(state, len(names))]
	}
	return texts[scattered(state, len(texts))]
}

// scatteredOf returns the numbers of one of some pairs, or 1 and 3 without pairs.
func scatteredOf(state *uint32, pairs []impl.Pair) []int64 {
	if len(pairs) == 0 {
		return []int64{1, 3}
	}
	return slices.Clone(pairs[scattered(state, len(pairs))][:])
}

// criticalPairs returns critical faces b and a, b of one dimension more.
func criticalPairs(d impl.Desk) []impl.Pair {
	var pairs []impl.Pair
	for dimension := range int64(impl.MaxVertices) {
		for _, b := range criticalOf(d.Complex, d.Pairing, dimension) {
			for _, a := range criticalOf(d.Complex, d.Pairing, dimension-1) {
				pairs = append(pairs, impl.Pair{b, a})
			}
		}
	}
	return pairs
}

// spoiltList returns a list, rarely without its last number, or with other ones.
func spoiltList(state *uint32, list []int64) []int64 {
	switch scattered(state, 24) {
	case 0:
		return append(list, int64(scattered(state, 9)))
	case 1:
		if len(list) > 0 {
			return list[:len(list)-1]
		}
	case 2:
		slices.Reverse(list)
	case 3:
		if len(list) > 0 {
			list[scattered(state, len(list))] = int64(scattered(state, 99))
		}
	}
	return list
}

// wordsOf returns the texts of some numbers, each with a blank ahead.
func wordsOf(numbers []int64) string {
	words := ""
	for _, number := range numbers {
		words += " " + fmt.Sprint(number)
	}
	return words
}

// deskSamples calls a function for desks with all acyclic pairings of complexes with at most three Vertices,
// with some pairings of larger ones, and with full ones.
func deskSamples(t *testing.T, check func(d impl.Desk)) {
	t.Helper()
	for _, k := range smallComplexes(3) {
		for _, list := range allPairings(k) {
			if isAcyclicByRule(k, list) {
				check(impl.Desk{Complex: k, Pairing: list})
			}
		}
	}
	for i, k := range append(allComplexes(4), append(windingComplexes(t), largeGameComplexes(t)...)...) {
		check(impl.Desk{Complex: k, Pairing: greedyByRule(k, i)})
		for _, list := range somePairings(k, 3) {
			if isAcyclicByRule(k, list) {
				check(impl.Desk{Complex: k, Pairing: list})
			}
		}
	}
}

// textWalks calls a function for texts of scattered lines, some of them empty, with their lines.
func textWalks(t *testing.T, count int, check func(text string, lines []string)) {
	t.Helper()
	state := uint32(11)
	for i := range count {
		d := circleDesk()
		var lines []string
		for range i % (impl.MaxLines + 1) {
			line := ""
			if choice := scattered(&state, 2*len(table11)); choice < len(table11) {
				line = scatteredLine(&state, table11[choice], d)
			} else if choice%5 > 0 {
				// Lines that change the desk come more often, so that the walk gets about.
				line = scatteredLine(&state, changingRows()[choice%len(changingRows())], d)
			}
			d, _ = lineByRule(d, line)
			lines = append(lines, line)
		}
		text := strings.Join(lines, "\n")
		if i%2 == 0 && len(lines) > 0 {
			text += "\n"
		}
		if len(text) <= impl.MaxConsole {
			check(text, lines)
		}
	}
}
