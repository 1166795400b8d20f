package tests

import (
	"fmt"
	"slices"
	"strings"
	"testing"

	"loop.example/g01234/impl"
)

// consoleDesks returns desks on which lines are run: with angles of all kinds, and sequences of all kinds.
func consoleDesks() []string {
	zeros := strings.Repeat("0", 63)
	return []string{
		newDesk, "0/1 0/1 (*)", "1/2 1/3 (0)", "1/3 1/2 (10*)", "3/7 1/3 (1*)", "2/3 6/7 1(0)", "13/31 5/12 (10110*)", "1/6 1/4 0(01)", "5/6 1/6 (1011*)", "1/255 253/255 (1001101*)", "1/511 0/1 0(11*)",
		"8190/8191 1/8191 (10000000*)", "1/8191 1/3 (10101*)", "1/8179 1/641 (" + zeros + "*)", "1/90 1/91 1" + zeros[1:] + "(*)", "3/46 43/46 (1*0*)", "1/128 127/128 (0*)", "9/56 1/1282 (110111*)", "1/14 1/7 (1)", "4095/4096 1/2 11(10)",
	}
}

// consoleLines returns lines of the table with arguments of all kinds, and wrong ones: each command, and some
// words that are none, with each tail.
func consoleLines() []string {
	ends := []string{"", " ", " 0", " 1", " 2", " 3", " 7", " 8", " 9", " 11", " 40", " 41", " 63", " 64", " 1000", " 1001", " 01", " -1", " 1000000000", " 0 0", " 0 1", " 1 2", " 3 0", " 5 9", " 0  1", " 0 1 2", " 0 1 ", "  0", " x", " 1/2", " 5/12", " 8190/8191", " 2/4", " 1/2 ", " (10*)", " 0(1)", " *1(10)", " (11)", "\n", " 0\n", "\t1", " \xff"}
	lines := []string{}
	for _, name := range append(commandNames(), "", "fly", "Show", "ok", "\xff") {
		for _, end := range ends {
			lines = append(lines, name+end)
		}
	}
	return lines
}

// Promise 11: lines lead from desks to desks, and a line with the output error changes nothing. What each line
// does is what the table tells.
func TestLinesLeadFromDesksToDesks(t *testing.T) {
	wrong, right := 0, map[string]int{}
	for _, from := range consoleDesks() {
		d := deskOf(from)
		if !impl.IsDesk(d) {
			t.Fatalf("IsDesk(%s) = false", from)
		}
		for _, line := range consoleLines() {
			next, output := impl.RunLine(d, line)
			if !impl.IsDesk(next) || output == "" || output == "error" && next != d {
				t.Errorf("RunLine(%s, %q): got %s, %q", from, line, deskText(next), output)
			}
			want, wantOutput := lineByHand(d, line)
			checkLine(t, from, line, wantOutput, deskText(want))
			if output == "error" {
				wrong++
			} else {
				name, _, _ := strings.Cut(line, " ")
				right[name]++
			}
		}
	}
	for _, name := range commandNames() {
		if right[name] < 6 {
			t.Errorf("only %d lines with %s are right", right[name], name)
		}
	}
	if len(right) != len(commandNames()) || wrong < 20000 {
		t.Errorf("%d lines are wrong, %d commands right", wrong, len(right))
	}
}

// lotTexts returns texts that look as if they were drawn by lot: lines of the table in any order, with wrong
// lines and empty ones between them, and with a newline at the end or without.
func lotTexts(count int) []string {
	lines := slices.DeleteFunc(consoleLines(), func(line string) bool { return len(line) > 70 || strings.Contains(line, "\n") })
	list := []string{}
	for _, word := range lotWords(count, 150, 470) {
		chosen := []string{}
		for bits := range slices.Chunk([]byte(word), 11) {
			number := numberByHand(string(bits))
			// Lines that change a desk come more often than others.
			line := []string{lines[number%len(lines)], []string{"double", "add", "partner", "swap", "kneading", "expansion", "shift", "itinerary"}[number/8%8], []string{"", "first 3/7", "second 5/12", "opposite", "sequence (101*)", "fly", "first 1/6", "reset"}[number/8%8]}[number%3]
			chosen = append(chosen, line)
		}
		given := strings.Join(chosen, "\n")
		if word[0] == '1' {
			given += "\n"
		}
		list = append(list, given)
	}
	return list
}

// Promise 11: the console joins the outputs of its lines, and the desk after them is the one to which they lead
// one by one.
func TestTheConsoleJoinsTheOutputsOfItsLines(t *testing.T) {
	taken, refused := 0, 0
	after := map[impl.Desk]bool{}
	for _, given := range lotTexts(400) {
		lines := strings.Split(strings.TrimSuffix(given, "\n"), "\n")
		if given == "" || len(lines) > 40 {
			checkTooLarge(t, given)
			refused++
			continue
		}
		d, outputs := impl.NewDesk(), ""
		for _, line := range lines {
			if line == "" {
				continue
			}
			next, output := impl.RunLine(d, line)
			want, wantOutput := lineByHand(d, line)
			if next != want || output != wantOutput {
				t.Errorf("RunLine(%s, %q): got %s, %q; want %s, %q", deskText(d), line, deskText(next), output, deskText(want), wantOutput)
			}
			d, outputs = next, outputs+output+"\n"
		}
		checkRun(t, given, outputs, deskText(d))
		after[d] = true
		taken++
	}
	if taken < 300 || refused < 10 || len(after) < 100 {
		t.Errorf("%d texts are taken, %d refused; %d desks after them", taken, refused, len(after))
	}
}

// The beginning of a text has the beginning of the outputs, and the desk after it leads on: the rest of the
// lines, run on this desk, have the rest of the outputs.
func TestTextsAreRunLineByLine(t *testing.T) {
	all := []string{"first 3/7", "kneading", "fly", "double", "", "add", "itinerary", "partner", "swap", "orbit", "shift", "limb", "wakes 8", "second 1/2", "obstructed"}
	for count := range len(all) + 1 {
		begin, end := strings.Join(all[:count], "\n"), all[count:]
		d, taken := impl.DeskAfter(begin)
		outputs := impl.Console(begin)
		for _, line := range end {
			if line != "" {
				next, output := impl.RunLine(d, line)
				d, outputs = next, outputs+output+"\n"
			}
		}
		if !taken || !impl.IsDesk(d) {
			t.Errorf("DeskAfter(%q): %v, %v", begin, d, taken)
		}
		checkRun(t, strings.Join(all, "\n"), outputs, deskText(d))
	}
}

// Lines undo each other: a double of an opposite angle is the opposite one of the double, and what is done twice
// by swap, opposite and partner is not done at all.
func TestLinesThatUndoEachOther(t *testing.T) {
	for _, from := range consoleDesks() {
		for _, name := range []string{"swap", "opposite", "partner"} {
			once, output := impl.RunLine(deskOf(from), name)
			if output != "error" {
				checkLine(t, deskText(once), name, angleText(deskOf(from).First), from)
			}
		}
		opposite, _ := impl.RunLine(deskOf(from), "opposite")
		doubled, _ := impl.RunLine(deskOf(from), "double")
		want, output := impl.RunLine(doubled, "opposite")
		checkLine(t, deskText(opposite), "double", output, deskText(want))
		// What show, other and word put out leads back to the desk.
		_, first := impl.RunLine(deskOf(from), "show")
		_, second := impl.RunLine(deskOf(from), "other")
		_, word := impl.RunLine(deskOf(from), "word")
		checkRun(t, fmt.Sprintf("first %s\nsecond %s\nsequence %s\n", first, second, word), first+"\n"+second+"\n"+word+"\n", from)
	}
}
