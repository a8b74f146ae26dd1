package tests

import (
	"fmt"
	"slices"
	"strings"
	"testing"

	"loop.example/g01348/impl"
)

// checkDesk checks that a value is a desk with the text of a complex, and that of a pairing.
func checkDesk(t *testing.T, name string, d impl.Desk, k, p string) {
	t.Helper()
	text, code := impl.ComplexText(d.Complex)
	if code != impl.ErrNone || text != k || pairsByRule(d.Pairing) != p || !impl.IsDesk(d) || !isAcyclicByRule(d.Complex, d.Pairing) {
		t.Errorf("%s: the desk %v; want %s, %s", name, d, k, p)
	}
}

// deskBehind returns the desk behind lines that follow each other on the new desk, with newlines
// between them, and the output of the last one.
func deskBehind(t *testing.T, text string) (impl.Desk, string) {
	t.Helper()
	d, output := impl.NewDesk(), ""
	for line := range strings.SplitSeq(text, "\n") {
		d, output = impl.RunLine(d, line)
	}
	return d, output
}

func TestNewDesk(t *testing.T) {
	if d := impl.NewDesk(); !sameDesk(d, circleDesk()) {
		t.Errorf("NewDesk() = %v", d)
	}
	checkDesk(t, "NewDesk", impl.NewDesk(), "3:01,02,12", "none")
}

// circleTree is the text of a tree of three numbers, and squareTree that of one of four.
const (
	circleTree = "1 0 2 2 2 0 0"
	squareTree = "0 1 1 2 3 2 2 3 3 2 2 3 3 3 3"
)

// TestLinesThatGiveAComplex has lines with the output of the last one, which is K; the desk is fresh.
func TestLinesThatGiveAComplex(t *testing.T) {
	for _, c := range []struct{ lines, want string }{
		{"complex 4:012,23", "4:012,23"}, {"complex 2:", "2:"}, {"complex 1:0", "1:0"}, {"complex 6:012345", "6:012345"}, {"complex 3:01,02,12", "3:01,02,12"},
		{"name point", "1:0"}, {"name circle", "3:01,02,12"}, {"name square", "4:01,12,03,23"}, {"name sphere", "4:012,013,023,123"}, {"name ball", "4:0123"},
		{"name bipyramid", "5:013,023,123,014,024,124"}, {"name octahedron", "6:024,124,034,134,025,125,035,135"}, {"name moebius", "5:012,123,014,034,234"},
		{"name projective", "6:012,023,124,034,134,015,135,235,045,245"}, {"name wedge", "5:01,02,12,03,04,34"}, {"name tree", "6:01,12,13,34,35"},
		{"cone", "4:013,023,123"}, {"complex 2:\ncone", "3:2"}, {"cone\ncone\ncone", "6:01345,02345,12345"},
		{"link 1", "3:1,2"}, {"link 4", "3:0,1"}, {"link 3", "3:"}, {"name ball\nlink 8", "4:012"}, {"name ball\nlink 5", "4:13"}, {"link 1\nlink 2", "3:"},
		{"skeleton 0", "3:0,1,2"}, {"skeleton 1", "3:01,02,12"}, {"skeleton 5", "3:01,02,12"}, {"name ball\nskeleton 1", "4:01,02,12,03,13,23"}, {"complex 2:\nskeleton 0", "2:"},
		{"take 3", "3:02,12"}, {"take 1", "3:12"}, {"take 5\ntake 2", "3:0,2"}, {"name ball\ntake 15", "4:012,013,023,123"}, {"complex 1:0\ntake 1", "1:"},
		// Without pairs the faces 1, 2, .. have the numbers 0, 1, ..; with the greedy ones they have 2, 1, 2, 0, 3, 1.
		{"level 0", "3:0"}, {"level 1", "3:0,1"}, {"level 2", "3:01"}, {"level 4", "3:01,02"}, {"level 5", "3:01,02,12"}, {"level 6", "3:01,02,12"}, {"level 1000", "3:01,02,12"},
		{"greedy\nlevel 0", "3:2"}, {"greedy\nlevel 1", "3:12"}, {"greedy\nlevel 2", "3:01,12"}, {"greedy\nlevel 3", "3:01,02,12"}, {"complex 2:\nlevel 0", "2:"},
		{"greedy\ncomplex 3:01,02,12", "3:01,02,12"}, {"greedy\nname circle", "3:01,02,12"}, {"pair 1 3\ncone", "4:013,023,123"}, {"greedy\nskeleton 1", "3:01,02,12"},
		{"pair 1 3\ntake 4", "3:01"}, {"complex 3:0,12\npair 2 6\nlink 1", "3:"}, {"complex 3:012\ngreedy\nlevel 1000", "3:012"}, {"pair 2 6\nlink 4", "3:0,1"},
	} {
		d, output := deskBehind(t, c.lines)
		if output != c.want {
			t.Errorf("%q: %q; want %q", c.lines, output, c.want)
		}
		checkDesk(t, c.lines, d, c.want, "none")
	}
}

// TestLinesThatGiveAPairing has lines on the fresh desk of a complex with the output of the last one, which
// is P; K stays as it was.
func TestLinesThatGiveAPairing(t *testing.T) {
	const circle, square, ball = "3:01,02,12", "4:01,12,03,23", "4:0123"
	for _, c := range []struct{ k, lines, want string }{
		{circle, "pair 1 3", "1>3"}, {circle, "pair 1 3\npair 2 6", "1>3,2>6"}, {circle, "pair 2 6\npair 1 3", "1>3,2>6"}, {circle, "pair 4 5\npair 2 6", "2>6,4>5"}, {circle, "pair 1 5\npair 2 3", "1>5,2>3"},
		{circle, "clear", "none"}, {circle, "greedy\nclear", "none"}, {circle, "pair 1 3\nclear\npair 2 3", "2>3"},
		{circle, "greedy", "1>3,2>6"}, {circle, "pair 4 5\ngreedy", "1>3,2>6"}, {"2:", "greedy", "none"}, {"2:01", "greedy", "1>3"},
		{circle, "fill", "1>3,2>6"}, {circle, "pair 2 3\nfill", "1>5,2>3"}, {circle, "pair 4 6\nfill", "1>3,4>6"}, {circle, "greedy\nfill", "1>3,2>6"}, {"2:0,1", "fill", "none"},
		{circle, "best", "1>3,2>6"}, {circle, "pair 4 6\nbest", "1>3,2>6"}, {"1:0", "best", "none"}, {"6:0,1,2,3,4", "best", "none"}, {square, "best", "1>3,2>6,4>12"},
		{circle, "pair 1 3\ncancel 6 2", "1>3,2>6"}, {circle, "pair 1 3\ncancel 5 2", "1>5,2>3"}, {circle, "cancel 3 1", "1>3"}, {"2:01", "cancel 3 2", "2>3"}, {ball, "cancel 15 7", "7>15"},
		{circle, "tree " + circleTree, "1>5,2>3"}, {circle, "pair 4 6\ntree 0 1 1 2 2 2 2", "1>5,2>6"}, {circle, "tree 2 1 1 0 0 0 0", "2>3,4>5"}, {square, "tree " + squareTree, "1>9,2>6,4>12"},
		{"1:0", "tree 0", "none"}, {"2:01", "tree 1 0 0", "2>3"}, {"3:0,1,2", "tree " + circleTree, "none"},
	} {
		d, output := deskBehind(t, "complex "+c.k+"\n"+c.lines)
		if output != c.want {
			t.Errorf("%q on %s: %q; want %q", c.lines, c.k, output, c.want)
		}
		checkDesk(t, c.lines, d, c.k, c.want)
	}
}

// TestLinesThatTell has lines with the output of the last one, which leaves the desk as it was.
func TestLinesThatTell(t *testing.T) {
	for _, c := range []struct{ before, line, want string }{
		{"clear", "show", "3:01,02,12"}, {"complex 3:", "show", "3:"}, {"greedy", "show", "3:01,02,12"},
		{"clear", "look", "none"}, {"greedy", "look", "1>3,2>6"}, {"complex 5:0123\npair 3 7\npair 10 11", "look", "3>7,10>11"},
		{"clear", "faces", "3 3"}, {"complex 3:", "faces", "none"}, {"name ball", "faces", "4 6 4 1"}, {"name projective", "faces", "6 15 10"}, {"name point", "faces", "1"},
		{"clear", "euler", "0"}, {"name sphere", "euler", "2"}, {"name ball\ncone\nskeleton 1", "euler", "-5"}, {"name wedge", "euler", "-1"}, {"name ball\ncone\ncone\nskeleton 1", "euler", "-9"}, {"complex 3:", "euler", "0"},
		{"clear", "critical", "1 2 3 4 5 6"}, {"greedy", "critical", "4 5"}, {"complex 3:", "critical", "none"}, {"name ball\nbest", "critical", "8"},
		{"clear", "numbers", "3 3"}, {"greedy", "numbers", "1 1"}, {"complex 3:", "numbers", "none"}, {"complex 2:01\ngreedy", "numbers", "1 0"},
		{"clear", "order", "1 2 3 4 5 6"}, {"greedy", "order", "4 2 6 1 3 5"}, {"complex 3:", "order", "none"},
		{"clear", "reached 1", "1"}, {"pair 1 3", "reached 1", "1 2"}, {"greedy", "reached 1", "1 2 4"}, {"greedy", "reached 4", "4"}, {"greedy", "reached 3", "3"},
		{"clear", "betti 2", "1 1"}, {"clear", "betti 3", "1 1"}, {"name projective", "betti 2", "1 1 1"}, {"name projective", "betti 3", "1 0 0"}, {"complex 3:", "betti 2", "none"}, {"name wedge", "betti 3", "1 2"},
		{"clear", "flat", "0 1 2 3 4 5"}, {"greedy", "flat", "2 1 2 0 3 1"}, {"complex 3:", "flat", "none"}, {"complex 2:01\npair 1 3", "flat", "1 0 1"},
		{"clear", "collapsible", "no"}, {"cone", "collapsible", "yes"}, {"complex 3:", "collapsible", "no"}, {"name tree", "collapsible", "yes"},
		{"greedy", "ways 5 4", "2"}, {"clear", "ways 3 1", "1"}, {"clear", "ways 3 4", "0"}, {"pair 1 3", "ways 5 2", "1"},
		{"clear", "boundary 1", "1,1,0;1,0,1;0,1,1"}, {"greedy", "boundary 1", "0"}, {"pair 1 3", "boundary 1", "1,1;1,1"}, {"clear", "boundary 2", "none"}, {"clear", "boundary 5", "none"}, {"complex 3:", "boundary 1", "none"},
		{"name sphere\nbest", "boundary 2", ""}, {"complex 3:01,02,12\ngreedy", "boundary 3", "none"}, {"complex 5:012,013,023,123,014,024,124\ngreedy", "boundary 2", ";"}, {"name ball", "boundary 3", "1,1,1,1"},
		{"greedy", "end 1", "4"}, {"greedy", "end 1 2", "none"}, {"greedy", "end 1 2 4", "4"}, {"greedy", "end", "none"}, {"greedy", "end 3 5 6", "3 5 6"}, {"greedy", "end 5", "3 5 6"}, {"greedy", "end 3", "none"}, {"clear", "end 2 4", "2 4"},
		{"clear", "full", "no"}, {"greedy", "full", "yes"}, {"pair 1 3", "full", "no"}, {"complex 3:", "full", "yes"},
		{"clear", "perfect", "no"}, {"greedy", "perfect", "yes"}, {"name point", "perfect", "yes"},
		{"clear", "least", "2"}, {"complex 6:0123,014,24", "least", "2"}, {"name wedge", "least", "3"}, {"complex 3:", "least", "0"},
		{"clear", "questions", "3"}, {"complex 2:01", "questions", "0"}, {"complex 3:01,12", "questions", "2"},
		{"clear", "evasive", "yes"}, {"complex 2:01", "evasive", "no"}, {"complex 2:", "evasive", "yes"},
		{"clear", "evaders " + circleTree, "6 7"}, {"complex 2:01", "evaders 0 1 1", "none"}, {"complex 3:0,12", "evaders " + circleTree, "1 2 3 5 6 7"},
		{"clear", "fewest", "2"}, {"complex 2:01", "fewest", "0"}, {"complex 5:0,1,2,3,4", "fewest", "8"},
	} {
		d, _ := deskBehind(t, c.before)
		after, output := impl.RunLine(d, c.line)
		if output != c.want || !sameDesk(after, d) {
			t.Errorf("%q on %v, behind %q: %q, %v; want %q", c.line, d, c.before, output, after, c.want)
		}
	}
}

func TestReset(t *testing.T) {
	for _, before := range []string{"clear", "greedy", "name ball", "name square\nbest", "complex 1:", "nothing"} {
		d, output := deskBehind(t, before+"\nreset")
		if output != "ok" {
			t.Errorf("reset behind %q: %q", before, output)
		}
		checkDesk(t, before, d, "3:01,02,12", "none")
	}
}

// TestLinesByRule runs lines of each row of the table on all kinds of desks, so that each one of them comes
// with and, where it can, without an error. It is the first half of promise 11, and the second guarantee.
func TestLinesByRule(t *testing.T) {
	state := uint32(1)
	done, refused := map[string]int{}, map[string]int{}
	deskSamples(t, func(d impl.Desk) {
		for _, row := range table11 {
			if slices.Contains([]string{"best", "least"}, row.line) && len(d.Complex.Faces) > 14 && scattered(&state, 4) > 0 {
				continue
			}
			line := scatteredLine(&state, row, d)
			after, output := impl.RunLine(d, line)
			want, text := lineByRule(d, line)
			if output != text || !sameDesk(after, want) {
				t.Fatalf("%q on %v: %q, %v; want %q, %v", line, d, output, after, text, want)
			}
			if !impl.IsDesk(after) || !isAcyclicByRule(after.Complex, after.Pairing) {
				t.Fatalf("%q on %v leads to %v, which is no desk", line, d, after)
			}
			if output != "error" {
				done[row.line]++
				continue
			}
			refused[row.line]++
			if !sameDesk(after, d) {
				t.Fatalf("%q on %v: %q, but the desk is %v", line, d, output, after)
			}
		}
	})
	for _, row := range table11 {
		mayFail := strings.Contains(row.line, " ") || slices.Contains([]string{"cone", "best", "least"}, row.line)
		if done[row.line] < 100 || mayFail && refused[row.line] < 10 || !mayFail && refused[row.line] > 0 {
			t.Errorf("%s: %d without an error, %d with one", row.line, done[row.line], refused[row.line])
		}
	}
}

// TestConsole has texts with their outputs.
func TestConsole(t *testing.T) {
	const circle = "3:01,02,12"
	for _, c := range []struct{ text, want, k, p string }{
		{"", "", circle, "none"}, {"\n", "", circle, "none"}, {"\n\n\n", "", circle, "none"},
		{"show", circle + "\n", circle, "none"}, {"show\n", circle + "\n", circle, "none"}, {"show\n\n", circle + "\n", circle, "none"}, {"\nshow", circle + "\n", circle, "none"}, {"\n\n\nshow\n\n", circle + "\n", circle, "none"},
		{"greedy\nlook", "1>3,2>6\n1>3,2>6\n", circle, "1>3,2>6"}, {"greedy\n\n\nlook\n", "1>3,2>6\n1>3,2>6\n", circle, "1>3,2>6"}, {"pair 1 3\n\npair 2 6", "1>3\n1>3,2>6\n", circle, "1>3,2>6"},
		{"name sphere\nbest\nboundary 2\nleast\n", "4:012,013,023,123\n1>3,2>6,4>12,5>7,9>11,10>14\n\n2\n", "4:012,013,023,123", "1>3,2>6,4>12,5>7,9>11,10>14"}, // a line with the empty output
		{"fly", "error\n", circle, "none"}, {" ", "error\n", circle, "none"}, {" \n \n", "error\nerror\n", circle, "none"}, {"greedy\nfly\nlook", "1>3,2>6\nerror\n1>3,2>6\n", circle, "1>3,2>6"},
		{"greedy\r\nlook\r", "error\nerror\n", circle, "none"}, {"greedy\rlook", "error\n", circle, "none"}, {"\r\n", "error\n", circle, "none"}, {"greedy\vlook\n", "error\n", circle, "none"}, {"show\u2028look", "error\n", circle, "none"},
		{"greedy\ncone\nlook\npair 8 9\nreset\nlook", "1>3,2>6\n4:013,023,123\nnone\n8>9\nok\nnone\n", circle, "none"}, {"pair 1 3\npair 1 3\nlook", "1>3\nerror\n1>3\n", circle, "1>3"},
		{"complex 2:01\neuler\ntake 3\ntake 1\ntake 2\nfaces\nshow\ntake 2", "2:01\n1\n2:0,1\n2:1\n2:\nnone\n2:\nerror\n", "2:", "none"},
	} {
		if got := impl.Console(c.text); got != c.want {
			t.Errorf("Console(%q) = %q; want %q", c.text, got, c.want)
		}
		d, ok := impl.DeskAfter(c.text)
		if !ok {
			t.Errorf("DeskAfter(%q): false", c.text)
		}
		checkDesk(t, fmt.Sprintf("%q", c.text), d, c.k, c.p)
	}
}

// TestConsoleJoinsOutputs is the second half of promise 11.
func TestConsoleJoinsOutputs(t *testing.T) {
	textWalks(t, 820, func(text string, lines []string) {
		d, byRule, outputs := impl.NewDesk(), circleDesk(), ""
		for _, line := range lines {
			if line == "" {
				continue
			}
			before := d
			after, output := impl.RunLine(d, line)
			want, wantOutput := lineByRule(byRule, line)
			if output != wantOutput || !sameDesk(after, want) || !impl.IsDesk(after) || output == "error" && !sameDesk(after, before) {
				t.Fatalf("%q on %v: %q, %v; want %q, %v", line, before, output, after, wantOutput, want)
			}
			d, byRule, outputs = after, want, outputs+output+"\n"
		}
		if got := impl.Console(text); got != outputs {
			t.Fatalf("Console(%q) = %q; want %q", text, got, outputs)
		}
		if after, ok := impl.DeskAfter(text); !ok || !sameDesk(after, d) {
			t.Fatalf("DeskAfter(%q) = %v, %v; want %v", text, after, ok, d)
		}
	})
}
