package tests

import (
	"strings"
	"testing"

	"loop.example/g01234/impl"
)

// TestConsole has texts with their outputs, and the desks after them.
func TestConsole(t *testing.T) {
	for _, c := range [][3]string{
		{"", "", newDesk},
		{"show", "1/7\n", newDesk}, {"show\n", "1/7\n", newDesk}, {"partner\n", "2/7\n", "2/7 1/3 (11*)"}, {"partner\npartner", "2/7\n1/7\n", newDesk},
		{"first 3/7\nkneading\nadmissible\naddress\nvertices\nedges\npath 0 1\n", "3/7\n(10*)\nyes\n1 2 3\n(10*) (0*1) (*10)\n0 2 / 1 2\n0 2 1\n", "3/7 1/3 (10*)"},
		{"first 1/2\nwakes 3\nsecond 1/3\nobstructed\nswap\nother\nlimb", "1/2\n1/3 2/3 / 3/7 4/7\n1/3\nyes\n1/3\n1/2\n1/3 2/3\n", "1/3 1/2 (11*)"},
		{"first 1/6\nexpansion\nshift\nitinerary\nword\nadd\ndouble\nopposite\n", "1/6\n0(01)\n(01)\n(*1)\n(*1)\n1/2\n0/1\n0/1\n", "0/1 1/3 (*1)"},
		{"first 0/1\npair\nwakes 8\npolynomial\nclasses 2\nsequence (*)\nedges\nvertices\n", "0/1\nerror\nnone\n1\n0 1\n(*)\nnone\n(*)\n", "0/1 1/3 (*)"},
		{"swap\nsequence (10)\nreset\nrho 1\n", "1/3\n(10)\nok\n3\n", newDesk},
		// Lines with the output error, alone, and between others.
		{"fly", "error\n", newDesk}, {" ", "error\n", newDesk}, {" \n  \n", "error\nerror\n", newDesk}, {"fly\nshow \n show\nSHOW\n", "error\nerror\nerror\nerror\n", newDesk},
		{"first 1/2\nfirst 2/2\nshow\npartner\nshow\n", "1/2\nerror\n1/2\nerror\n1/2\n", "1/2 1/3 (11*)"}, {"sequence (0)\nadmissible\nsequence (00)\nword", "(0)\nerror\nerror\n(0)\n", "1/7 1/3 (0)"},
		// Empty lines at the beginning, in the middle, and at the end.
		{"\n", "", newDesk}, {"\n\n\n", "", newDesk}, {"\nshow", "1/7\n", newDesk}, {"\n\nshow\n", "1/7\n", newDesk}, {"show\n\nother", "1/7\n1/3\n", newDesk}, {"show\n\n\n\nother\n", "1/7\n1/3\n", newDesk}, {"show\n\n", "1/7\n", newDesk}, {"\n\ndouble\n\ndouble\n\n\n", "2/7\n4/7\n", "4/7 1/3 (11*)"},
		// Bytes that end no line.
		{"show\r\nother\r\n", "error\nerror\n", newDesk}, {"show\rother", "error\n", newDesk}, {"\r\n", "error\n", newDesk}, {"\t\n", "error\n", newDesk}, {"show\x00other\n", "error\n", newDesk}, {"show\vother\fword\n", "error\n", newDesk}, {"show\u2028other\u0085word\n", "error\n", newDesk}, {"\x00", "error\n", newDesk}, {"\xff\nshow\n\xc3\n", "error\n1/7\nerror\n", newDesk}, {"\ufeffshow\nshow", "error\n1/7\n", newDesk}, {"first 1/2\xff\nshow", "error\n1/7\n", newDesk}, {"show;other\n", "error\n", newDesk}, {"\xff\x0a\x0ashow", "error\n1/7\n", newDesk},
	} {
		checkRun(t, c[0], c[1], c[2])
	}
}

// TestEachTextBeginsWithTheNewDesk runs texts one after the other: none sees what another one has done.
func TestEachTextBeginsWithTheNewDesk(t *testing.T) {
	for range 2 {
		checkRun(t, "first 1/2\nsecond 1/5\nsequence 0(1)\n", "1/2\n1/5\n0(1)\n", "1/2 1/5 0(1)")
		checkRun(t, "show\nother\nword\n", "1/7\n1/3\n(11*)\n", newDesk)
		checkTooLarge(t, strings.Repeat("partner\n", 41))
		checkRun(t, "show\n", "1/7\n", newDesk)
	}
}

// TestTextsOfMaxConsoleBytes has texts of MaxConsole bytes, and of one more.
func TestTextsOfMaxConsoleBytes(t *testing.T) {
	start := "first 3/7\n"
	for _, end := range []string{"x", "x\n", " ", " \n", "\xff", "\r\n", "0\nshow", "\nshow\n", "\n\n\n"} {
		given := start + strings.Repeat("x", 3000-len(start)-len(end)) + end
		want := "3/7\nerror\n"
		if strings.Contains(end, "show") {
			want += "3/7\n"
		}
		checkRun(t, given, want, "3/7 1/3 (11*)")
		// One byte less is not too much either.
		checkRun(t, given[:10]+given[11:], want, "3/7 1/3 (11*)")
		checkTooLarge(t, given+"x")
		checkTooLarge(t, given+"\n")
		checkTooLarge(t, "\n"+given)
	}
	// It is bytes that are counted, not letters: é has two of them.
	checkRun(t, strings.Repeat("é", 1499)+"\n\n", "error\n", newDesk)
	checkRun(t, "\n\n"+strings.Repeat("é", 1499), "error\n", newDesk)
	checkTooLarge(t, strings.Repeat("é", 1500)+"\n")
	checkTooLarge(t, "show\n"+strings.Repeat("é", 1499))
	for _, size := range []int{3001, 3002, 4096, 6000, 1 << 16, 1 << 20} {
		checkTooLarge(t, strings.Repeat("x", size))
		checkTooLarge(t, strings.Repeat("\n", size))
		checkTooLarge(t, "show\n"+strings.Repeat(" ", size))
	}
}

// TestTextsOfMaxLinesLines has texts of MaxLines lines, and of one more, empty ones included.
func TestTextsOfMaxLinesLines(t *testing.T) {
	for _, ended := range []string{"double\n", "\n"} {
		for before := range 40 {
			lines := strings.Repeat("\n", before) + strings.Repeat(ended, 39-before)
			doubled := impl.NewDesk()
			outputs := ""
			for range strings.Count(lines, "d") {
				doubled.First = doubleByHand(doubled.First)
				outputs += angleText(doubled.First) + "\n"
			}
			// The last line ends with a newline, or without one, or is empty.
			checkRun(t, lines+"show\n", outputs+angleText(doubled.First)+"\n", deskText(doubled))
			checkRun(t, lines+"show", outputs+angleText(doubled.First)+"\n", deskText(doubled))
			checkRun(t, lines+"\n", outputs, deskText(doubled))
			checkRun(t, lines, outputs, deskText(doubled))
			checkTooLarge(t, lines+"show\nx")
			checkTooLarge(t, lines+"show\nx\n")
			checkTooLarge(t, lines+"show\n\n")
			checkTooLarge(t, lines+"\n\n")
			checkTooLarge(t, "\n"+lines+"show")
			checkTooLarge(t, "\n"+lines+"\n")
		}
	}
	checkRun(t, strings.Repeat("show\n", 40), strings.Repeat("1/7\n", 40), newDesk)
	checkRun(t, strings.Repeat(" \n", 40), strings.Repeat("error\n", 40), newDesk)
	checkTooLarge(t, strings.Repeat("show\n", 41))
	checkTooLarge(t, strings.Repeat("fly\n", 41))
	checkTooLarge(t, strings.Repeat("\n", 41))
	// Both limits are reached, and one of them, or both, exceeded.
	line := "first 1/2" + strings.Repeat(" ", 65) + "\n"
	checkRun(t, strings.Repeat(line, 40), strings.Repeat("error\n", 40), newDesk)
	checkTooLarge(t, strings.Repeat(line, 40)+"\n")
	checkTooLarge(t, " "+strings.Repeat(line, 40))
	checkTooLarge(t, strings.Repeat(line, 41))
}

// TestLongOutputs has outputs that are longer than MaxConsole: the limit is one of the text alone.
func TestLongOutputs(t *testing.T) {
	_, classes := impl.RunLine(impl.NewDesk(), "classes 63")
	if !strings.HasPrefix(classes, "0 / 1 / 2 / ") || len(classes) < 200 {
		t.Fatalf("classes 63: %q", classes)
	}
	checkRun(t, strings.Repeat("classes 63\n", 40), strings.Repeat(classes+"\n", 40), newDesk)
	all := strings.Join(allWordsOf(t, 10), " ")
	checkRun(t, strings.Repeat("words 10\n", 40), strings.Repeat(all+"\n", 40), newDesk)
	if got := len(impl.Console("words 10\nwords 10")); got != 2*len(all)+2 || got < 3001 {
		t.Errorf("two outputs have %d bytes", got)
	}
}
