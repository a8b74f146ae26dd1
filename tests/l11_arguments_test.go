package tests

import (
	"math"
	"slices"
	"strings"
	"testing"

	"loop.example/g01348/impl"
)

// example11 is a line of a row of the table that has no error on the desk behind other lines.
type example11 struct{ before, line string }

// examples11 returns one line of each row, most of them on desks with a pairing.
func examples11() []example11 {
	return []example11{
		{"greedy", "complex 4:012,23"}, {"greedy", "name ball"}, {"greedy", "cone"}, {"greedy", "link 1"}, {"greedy", "skeleton 0"}, {"greedy", "take 3"}, {"greedy", "level 1"},
		{"pair 1 3", "pair 2 6"}, {"greedy", "clear"}, {"pair 1 5", "greedy"}, {"pair 2 3", "fill"}, {"pair 2 3", "best"}, {"pair 1 3", "cancel 5 2"}, {"pair 4 6", "tree " + circleTree},
		{"greedy", "show"}, {"greedy", "look"}, {"greedy", "faces"}, {"greedy", "euler"}, {"greedy", "critical"}, {"greedy", "numbers"}, {"greedy", "order"}, {"greedy", "reached 1"}, {"greedy", "betti 2"}, {"greedy", "flat"},
		{"greedy", "collapsible"}, {"greedy", "ways 5 4"}, {"greedy", "boundary 1"}, {"greedy", "end 3 5 6"}, {"greedy", "full"}, {"greedy", "perfect"}, {"greedy", "least"},
		{"greedy", "questions"}, {"greedy", "evasive"}, {"greedy", "evaders " + circleTree}, {"greedy", "fewest"}, {"name ball\ngreedy", "reset"},
	}
}

// TestExamplesAreOfEachRow makes sure that the other tests of this file leave out no row.
func TestExamplesAreOfEachRow(t *testing.T) {
	examples := examples11()
	for _, row := range table11 {
		if count := len(slices.DeleteFunc(slices.Clone(examples), func(e example11) bool { return !row.pattern.MatchString(e.line) })); count != 1 {
			t.Errorf("%s: %d examples", row.line, count)
		}
	}
	for _, e := range examples {
		d, _ := deskBehind(t, e.before)
		if _, output := impl.RunLine(d, e.line); output == "error" {
			t.Errorf("%q behind %q: error", e.line, e.before)
		}
	}
}

// checkWrong checks that a line has the output error and changes nothing.
func checkWrong(t *testing.T, d impl.Desk, line string) {
	t.Helper()
	if after, output := impl.RunLine(d, line); output != "error" || !sameDesk(after, d) {
		t.Errorf("%.200q on %v: %q, %v", line, d, output, after)
	}
}

// wordsThatAreNoNumbers returns words that are no numbers of a line, or that no function takes.
func wordsThatAreNoNumbers(word string) []string {
	return []string{
		"", "0" + word, "00" + word, "00000000" + word, "000000000" + word, "+" + word, "-" + word, "-0", "-1", "+0", "00", "01", "--1", "+-1",
		word + ".", word + ".0", word + "e0", "0x" + word, "0b1", "0o1", "0_1", "1_0", word + "_", "_" + word, word + ",", word + "\n", word + "\r", word + "\t", "\t" + word, word + "\x00", "'1'",
		"a", "A", "K", "N..", "none", "one", "Inf", "NaN", "1/1", "１", "१", "²", "é", "\xff", word + "\u00a0",
		"999999999", "1000000000", "1000000001", "4294967297", "9223372036854775807", "9223372036854775808", "18446744073709551617", "99999999999999999999999999", strings.Repeat("1", 3000),
	}
}

// TestWrongWords changes one word of a line at a time.
func TestWrongWords(t *testing.T) {
	for _, e := range examples11() {
		d, _ := deskBehind(t, e.before)
		words := strings.Split(e.line, " ")
		for place := 1; place < len(words); place++ {
			for _, wrong := range wordsThatAreNoNumbers(words[place]) {
				changed := slices.Clone(words)
				changed[place] = wrong
				checkWrong(t, d, strings.Join(changed, " "))
			}
			if words[0] != "end" { // a part of a chain is a chain
				checkWrong(t, d, strings.Join(slices.Delete(slices.Clone(words), place, place+1), " "))
			}
		}
		for place := 1; place <= len(words); place++ {
			for _, more := range []string{"", "0", "1", "7", "x", words[0]} {
				if words[0] != "end" || more != "7" && more != "1" {
					checkWrong(t, d, strings.Join(slices.Insert(slices.Clone(words), place, more), " "))
				}
			}
		}
	}
}

// TestWrongLettersAndBlanks writes lines in other letters, with blanks where none belong, and with other
// bytes in the place of blanks.
func TestWrongLettersAndBlanks(t *testing.T) {
	for _, e := range examples11() {
		d, _ := deskBehind(t, e.before)
		command, rest, _ := strings.Cut(e.line, " ")
		rest = strings.TrimPrefix(e.line, command)
		for _, line := range []string{
			" " + e.line, "  " + e.line, e.line + " ", e.line + "  ", " " + e.line + " ", command + " " + rest + " ", command + "  " + strings.TrimSpace(rest),
			strings.ToUpper(command) + rest, strings.ToUpper(e.line), strings.ToUpper(command[:1]) + command[1:] + rest, command[:len(command)-1] + rest, command[1:] + rest, command + "s" + rest, command + "\x00" + rest, "\ufeff" + e.line,
			e.line + "\n", "\n" + e.line, e.line + "\r", e.line + "\t", "\t" + e.line, e.line + "\x00", e.line + ";", e.line + "\n" + e.line, e.line + " " + e.line, "look " + e.line, e.line + " #",
		} {
			checkWrong(t, d, line)
		}
		if rest != "" {
			for _, between := range []string{"  ", "\t", "\n", ",", "\u00a0", "\u2003", "", " \t", "="} {
				checkWrong(t, d, strings.Replace(e.line, " ", between, 1))
			}
		}
	}
}

// TestLinesThatAreNone gives lines with no command of the table, and texts and names that chapter 1 refuses.
func TestLinesThatAreNone(t *testing.T) {
	lines := []string{
		"", " ", "  ", "   ", "\n", "\t", "0", "1", "1 3", "x", "é", "\xff", "\x00", "K", "P", "TEXT", "N..", "ok", "error", "none", "yes", "no", "new", "fresh", "desk", "help", "quit", "star 1", "part 3", "add 1 3", "show,look", "show, look", "full,", "full, perfect",
		"complex", "complex ", "complex  ", "complex 3", "complex 3:03", "complex 3:12,01", "complex 3:10", "complex 3:01,01", "complex 3:0,01", "complex 0:", "complex 7:", "complex 03:", "complex 3:,", "complex 3:01,", "complex 3:01 12", "complex 3: 01", "complex circle", "complex {3,[1]}", "complex 3:３",
		"name", "name ", "name Circle", "name CIRCLE", "name circles", "name circl", "name cir cle", "name 3:01,02,12", "name \x00", "name circle\n", "name torus", "name 0", "circle", "3:01,02,12",
		strings.Repeat("x", 100000), strings.Repeat(" ", 100000), "show" + strings.Repeat(" ", 5000), "end" + strings.Repeat(" 1", 50000), "tree" + strings.Repeat(" 0", 50000), "evaders" + strings.Repeat(" ", 5000), "name " + strings.Repeat("circle", 9000), "complex 3:" + strings.Repeat("0,", 9000),
	}
	for _, before := range []string{"clear", "greedy", "name ball\nbest", "complex 1:", "name projective\ngreedy", "complex 6:012345\nfill"} {
		d, _ := deskBehind(t, before)
		for _, line := range lines {
			checkWrong(t, d, line)
		}
	}
}

// TestLinesThatFunctionsRefuse has a line for each code that a function returns, and asks for the code first.
func TestLinesThatFunctionsRefuse(t *testing.T) {
	for _, c := range []struct {
		before, line string
		code         int64
	}{
		{"greedy", "complex 3:10", impl.ErrSyntax}, {"greedy", "complex x", impl.ErrSyntax}, {"greedy", "name disc", impl.ErrNotFound},
		{"complex 6:01\npair 1 3", "cone", impl.ErrLimit}, {"name projective\ngreedy", "cone", impl.ErrLimit},
		{"greedy", "link 0", impl.ErrRange}, {"greedy", "link 7", impl.ErrRange}, {"greedy", "link 8", impl.ErrRange}, {"greedy", "skeleton 6", impl.ErrRange}, {"greedy", "skeleton 999999999", impl.ErrRange},
		{"greedy", "take 0", impl.ErrRange}, {"greedy", "take 7", impl.ErrRange}, {"complex 2:", "take 1", impl.ErrRange}, {"greedy", "level 1001", impl.ErrRange}, {"greedy", "level 999999999", impl.ErrRange},
		{"pair 1 3", "pair 3 2", impl.ErrRange}, {"pair 1 3", "pair 2 7", impl.ErrRange}, {"pair 1 3", "pair 6 2", impl.ErrRange}, {"pair 1 3", "pair 0 2", impl.ErrRange}, {"pair 1 3", "pair 1 3", impl.ErrState}, {"pair 1 3", "pair 2 3", impl.ErrState}, {"greedy", "pair 4 5", impl.ErrState},
		{"complex 6:0123,014,024\ngreedy", "best", impl.ErrLimit}, {"name projective\ngreedy", "best", impl.ErrLimit}, {"name octahedron\ngreedy", "least", impl.ErrLimit}, {"complex 6:0123,014,024", "least", impl.ErrLimit},
		{"greedy", "cancel 5 4", impl.ErrState}, {"clear", "cancel 3 4", impl.ErrState}, {"greedy", "cancel 4 5", impl.ErrRange}, {"greedy", "cancel 3 4", impl.ErrRange}, {"greedy", "cancel 5 7", impl.ErrRange}, {"pair 1 3", "cancel 5 1", impl.ErrRange},
		{"greedy", "tree", impl.ErrRange}, {"greedy", "tree 0 1 1", impl.ErrRange}, {"greedy", "tree 1 0 1 2 2 2 2", impl.ErrRange}, {"greedy", "tree 3 0 0 1 1 1 1", impl.ErrRange}, {"greedy", "tree " + squareTree, impl.ErrRange},
		{"greedy", "reached 0", impl.ErrRange}, {"greedy", "reached 7", impl.ErrRange}, {"greedy", "betti 0", impl.ErrRange}, {"greedy", "betti 1", impl.ErrRange}, {"greedy", "betti 4", impl.ErrRange}, {"greedy", "betti 5", impl.ErrRange},
		{"greedy", "ways 4 5", impl.ErrRange}, {"greedy", "ways 5 5", impl.ErrRange}, {"greedy", "ways 3 4", impl.ErrRange}, {"greedy", "ways 5 0", impl.ErrRange}, {"greedy", "boundary 0", impl.ErrRange}, {"greedy", "boundary 6", impl.ErrRange},
		{"greedy", "end 0", impl.ErrRange}, {"greedy", "end 1 3", impl.ErrRange}, {"greedy", "end 2 1", impl.ErrRange}, {"greedy", "end 1 1", impl.ErrRange}, {"greedy", "end 7", impl.ErrRange},
		{"greedy", "evaders", impl.ErrRange}, {"greedy", "evaders 0 1 1", impl.ErrRange}, {"greedy", "evaders 1 0 1 2 2 2 2", impl.ErrRange}, {"greedy", "evaders 0 1 2 3 4 5", impl.ErrRange},
	} {
		d, _ := deskBehind(t, c.before)
		rows := slices.DeleteFunc(slices.Clone(table11), func(row row11) bool { return !row.pattern.MatchString(c.line) })
		if len(rows) != 1 {
			t.Fatalf("%q: %d rows", c.line, len(rows))
		}
		if _, _, code := rows[0].run(d, wordsIn(c.line)); code != c.code {
			t.Errorf("%q on %v: code %d; want %d", c.line, d, code, c.code)
		}
		checkWrong(t, d, c.line)
	}
}

// TestLinesAtTheLimits has lines with numbers and complexes that are just accepted.
func TestLinesAtTheLimits(t *testing.T) {
	for _, c := range []struct{ lines, want string }{
		{"level 1000", "3:01,02,12"}, {"skeleton 5", "3:01,02,12"}, {"boundary 5", "none"}, {"complex 6:012345\nskeleton 5", "6:012345"}, {"complex 6:012345\nboundary 5", "1,1,1,1,1,1"}, {"complex 6:012345\nreached 63", "63"},
		{"complex 6:0123,014,24\nleast", "2"}, {"complex 5:01234\ncone", "6:012345"}, {"link 6", "3:"}, {"take 6", "3:01,02"}, {"complex 6:5\nlink 32", "6:"},
	} {
		if _, output := deskBehind(t, c.lines); output != c.want {
			t.Errorf("%q: %q; want %q", c.lines, output, c.want)
		}
	}
	d, output := deskBehind(t, "complex 6:0123,014,24\nbest")
	if best, code := impl.BestPairing(d.Complex); code != impl.ErrNone || len(best) != 9 || output != pairsByRule(best) || !slices.Equal(d.Pairing, best) {
		t.Errorf("best: %q, %v; want %v, %d", output, d, best, code)
	}
}

// desksThatAreNone returns values of the type Desk that are no desks.
func desksThatAreNone() []impl.Desk {
	circle, around, some := circlePairings()
	desks := []impl.Desk{{}, {Pairing: some}, {Complex: circle, Pairing: around}, {Complex: complexOn(3, 1, 2, 4), Pairing: some}, {Complex: complexOn(3), Pairing: some}}
	for _, k := range invalidComplexes() {
		desks = append(desks, impl.Desk{Complex: k}, impl.Desk{Complex: k, Pairing: some})
	}
	for _, list := range listsThatAreNoPairings() {
		desks = append(desks, impl.Desk{Complex: fullComplex(3), Pairing: list})
	}
	for _, list := range [][]impl.Pair{{{1, 3}, {2, 10}, {4, 5}, {8, 12}}, {{3, 7}, {5, 13}, {9, 11}}} { // with a cycle
		desks = append(desks, impl.Desk{Complex: fullComplex(4), Pairing: list})
	}
	return desks
}

func TestDesksThatAreNone(t *testing.T) {
	lines := []string{"", " ", "fly", "complex x", "pair 1", "name circle "}
	for _, e := range examples11() {
		lines = append(lines, e.line)
	}
	for _, d := range desksThatAreNone() {
		if impl.IsDesk(d) {
			t.Errorf("IsDesk(%v) = true", d)
		}
		for _, line := range lines {
			if after, output := impl.RunLine(d, line); output != "" || !sameDesk(after, impl.Desk{}) {
				t.Errorf("%q on %v: %q, %v", line, d, output, after)
			}
		}
	}
}

// TestIsDesk takes all pairings of small complexes, and some of larger ones.
func TestIsDesk(t *testing.T) {
	samplePairings(t, func(k impl.Complex, list []impl.Pair) {
		if got := impl.IsDesk(impl.Desk{Complex: k, Pairing: list}); got != isAcyclicByRule(k, list) {
			t.Fatalf("IsDesk of %v and %v = %v", k, list, got)
		}
	})
	for _, d := range []impl.Desk{circleDesk(), {Complex: complexOn(1)}, {Complex: complexOn(6)}, {Complex: fullComplex(6)}, {Complex: fullComplex(2), Pairing: []impl.Pair{{1, 3}}}} {
		if !impl.IsDesk(d) {
			t.Errorf("IsDesk(%v) = false", d)
		}
	}
}

// TestTextsAtAndBeyondTheLimits has texts with as many bytes and lines as there may be, and with one more.
func TestTextsAtAndBeyondTheLimits(t *testing.T) {
	repeat := strings.Repeat
	for _, c := range []struct {
		text, want string
		ok         bool
	}{
		{repeat("x", 4000), "error\n", true}, {repeat("x", 3999) + "\n", "error\n", true}, {repeat("x", 4001), "", false}, {repeat("x", 4000) + "\n", "", false}, {repeat(" ", 4000), "error\n", true}, {repeat(" ", 4001), "", false},
		{"show\n" + repeat("x", 3995), "3:01,02,12\nerror\n", true}, {"show\n" + repeat("x", 3996), "", false}, {repeat("é", 2000), "error\n", true}, {repeat("é", 2000) + "x", "", false}, {repeat("é", 3000), "", false}, {repeat("x", 1<<20), "", false},
		{repeat("\n", 40), "", true}, {repeat("\n", 41), "", false}, {repeat("\n", 39) + "euler", "0\n", true}, {repeat("\n", 40) + "euler", "", false}, {"euler" + repeat("\n", 40), "0\n", true}, {"euler" + repeat("\n", 41), "", false},
		{repeat("euler\n", 40), repeat("0\n", 40), true}, {repeat("euler\n", 39) + "euler", repeat("0\n", 40), true}, {repeat("euler\n", 40) + "euler", "", false}, {repeat("euler\n", 41), "", false}, {repeat("euler\n", 40) + "\n", "", false}, {repeat("euler\n\n", 20), repeat("0\n", 20), true}, {repeat("euler\n\n", 20) + "x", "", false},
		{repeat(repeat("x", 99)+"\n", 40), repeat("error\n", 40), true}, {repeat(repeat("x", 99)+"\n", 40) + "x", "", false}, {repeat(repeat("x", 99)+"\n", 39) + repeat("x", 101), "", false}, {repeat("\n", 4000), "", false}, {repeat("\n", 4001), "", false}, {repeat("x\n", 2000), "", false},
		{repeat("euler\r\n", 40), repeat("error\n", 40), true}, {repeat("\r", 4000), "error\n", true},
	} {
		if got := impl.Console(c.text); got != c.want {
			t.Errorf("Console(%.99q) of %d bytes = %q; want %q", c.text, len(c.text), got, c.want)
		}
		want := impl.Desk{}
		if c.ok {
			want = circleDesk()
		}
		if d, ok := impl.DeskAfter(c.text); ok != c.ok || !sameDesk(d, want) {
			t.Errorf("DeskAfter(%.99q) of %d bytes = %v, %v; want %v, %v", c.text, len(c.text), d, ok, want, c.ok)
		}
	}
	if impl.MaxConsole != 4000 || impl.MaxLines != 40 {
		t.Errorf("the limits are %d and %d", impl.MaxConsole, impl.MaxLines)
	}
}

// spoilDesk overwrites a desk and the spare capacity behind its lists.
func spoilDesk(d impl.Desk) { result5{complex: d.Complex, pairs: d.Pairing}.spoil() }

// deskWithRoom returns a copy of a desk with spare capacity behind both lists.
func deskWithRoom(d impl.Desk) impl.Desk {
	faces := append(slices.Clone(d.Complex.Faces), slices.Repeat([]int64{77}, 80)...)
	list := append(slices.Clone(d.Pairing), slices.Repeat([]impl.Pair{{77, 77}}, 40)...)
	return impl.Desk{Complex: complexOn(d.Complex.Vertices, faces[:len(d.Complex.Faces)]...), Pairing: list[:len(d.Pairing)]}
}

// wholeDesk returns a copy of a desk with what is behind its lists.
func wholeDesk(d impl.Desk) impl.Desk {
	return impl.Desk{Complex: complexOn(d.Complex.Vertices, slices.Clone(d.Complex.Faces[:cap(d.Complex.Faces)])...), Pairing: slices.Clone(d.Pairing[:cap(d.Pairing)])}
}

// TestDesksLeaveArgumentsAndGiveNewResults runs lines, wrong ones among them, on desks with spare capacity,
// spoils each result, and looks whether the desk or a second result has changed.
func TestDesksLeaveArgumentsAndGiveNewResults(t *testing.T) {
	desks := append(desksThatAreNone(), circleDesk(), impl.Desk{Complex: fullComplex(6)})
	for _, before := range []string{"greedy", "pair 1 3", "name ball\nfill", "complex 3:", "name projective\ngreedy", "complex 1:0"} {
		d, _ := deskBehind(t, before)
		desks = append(desks, d)
	}
	examples := append(examples11(), example11{line: "fly"}, example11{line: ""}, example11{line: "link 99"}, example11{line: "end"})
	for _, d := range desks {
		given := deskWithRoom(d)
		whole := wholeDesk(given)
		for _, e := range examples {
			first, output := impl.RunLine(given, e.line)
			kept := deskWithRoom(first)
			spoilDesk(first)
			second, again := impl.RunLine(given, e.line)
			if !sameDesk(second, kept) || again != output {
				t.Errorf("%q on %v: %v, %q, then %v, %q", e.line, d, kept, output, second, again)
			}
			impl.IsDesk(given)
			if !sameDesk(wholeDesk(given), whole) {
				t.Fatalf("%q changed the desk %v: %v", e.line, d, given)
			}
		}
	}
}

// TestDesksOfTextsAreNew spoils new desks and desks behind texts, and asks for them again.
func TestDesksOfTextsAreNew(t *testing.T) {
	spoilDesk(impl.NewDesk())
	if d := impl.NewDesk(); !sameDesk(d, circleDesk()) {
		t.Errorf("a second NewDesk() = %v", d)
	}
	for _, text := range []string{"", "show", "greedy", "greedy\nfly", "name ball\nbest\nlook", "cone\nreset", "pair 1 3\nclear"} {
		first, ok := impl.DeskAfter(text)
		kept, output := deskWithRoom(first), impl.Console(text)
		spoilDesk(first)
		second, ok2 := impl.DeskAfter(text)
		if !ok || !ok2 || !sameDesk(second, kept) || impl.Console(text) != output || !sameDesk(impl.NewDesk(), circleDesk()) {
			t.Errorf("%q: %v, %v, then %v, %v; %q, then %q", text, kept, ok, second, ok2, output, impl.Console(text))
		}
	}
}

// TestConsolesGiveTheSameAgainAndInParallel runs texts several times, also from several goroutines, as nothing
// is kept between calls.
func TestConsolesGiveTheSameAgainAndInParallel(t *testing.T) {
	var texts, wanted []string
	textWalks(t, 60, func(text string, lines []string) {
		texts, wanted = append(texts, text), append(wanted, impl.Console(text))
	})
	texts, wanted = append(texts, "x", strings.Repeat("\n", 41)), append(wanted, "error\n", "")
	done := make(chan bool)
	for range 8 {
		go func() {
			same := true
			for i, text := range slices.Backward(texts) {
				_, ok := impl.DeskAfter(text)
				same = same && impl.Console(text) == wanted[i] && ok == (i < len(texts)-1)
			}
			done <- same
		}()
	}
	for range 8 {
		if !<-done {
			t.Error("other results in parallel than before")
		}
	}
}

// TestNumbersOfDesksOutOfRange gives desks with huge numbers.
func TestNumbersOfDesksOutOfRange(t *testing.T) {
	for _, x := range append([]int64{0, -1, 7, 8, 64}, hugeNumbers()...) {
		for _, d := range []impl.Desk{
			{Complex: complexOn(x, 1)}, {Complex: complexOn(3, 1, 2, 3, max(x, 4)<<1)}, {Complex: complexOn(2, 1, 2, 3), Pairing: []impl.Pair{{1, x}}}, {Complex: complexOn(2, 1, 2, 3), Pairing: []impl.Pair{{x, 3}}}, {Complex: complexOn(2, 1, 2, 3), Pairing: []impl.Pair{{1, 3}, {x, math.MaxInt64}}},
		} {
			if after, output := impl.RunLine(d, "reset"); impl.IsDesk(d) || output != "" || !sameDesk(after, impl.Desk{}) {
				t.Errorf("reset on %v: %q, %v", d, output, after)
			}
		}
	}
}
