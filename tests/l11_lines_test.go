package tests

import (
	"fmt"
	"slices"
	"strings"
	"testing"
	"unsafe"

	"loop.example/g01234/impl"
)

func TestConstantsOfChapter11(t *testing.T) {
	if impl.MaxConsole != 3000 || impl.MaxLines != 40 {
		t.Errorf("MaxConsole is %d, MaxLines %d", impl.MaxConsole, impl.MaxLines)
	}
}

func TestNewDesk(t *testing.T) {
	want := impl.Desk{First: angle(1, 7), Second: angle(1, 3), Sequence: sequence("", "11*")}
	for range 2 {
		if d := impl.NewDesk(); d != want || d != deskOf(newDesk) || !impl.IsDesk(d) {
			t.Errorf("NewDesk() = %v", d)
		}
		impl.RunLine(impl.NewDesk(), "partner")
		impl.Console("first 1/2\nreset\nswap\n")
	}
}

func TestIsDesk(t *testing.T) {
	for _, written := range []string{newDesk, "0/1 0/1 (0)", "1/2 1/2 (*)", "8190/8191 1/8191 0(1)", "1/8179 1/641 *(10)", "1/7 2/7 " + text(longSequences()[0]), "1/7 2/7 " + text(longSequences()[3])} {
		if !impl.IsDesk(deskOf(written)) {
			t.Errorf("IsDesk(%s) = false", written)
		}
	}
	for _, d := range notDesks() {
		if impl.IsDesk(d) {
			t.Errorf("IsDesk(%v) = true", d)
		}
	}
}

// TestLinesThatChangeAngles has the lines of the table that change an angle, or both.
func TestLinesThatChangeAngles(t *testing.T) {
	for _, c := range [][4]string{
		{newDesk, "first 3/8", "3/8", "3/8 1/3 (11*)"}, {newDesk, "first 0/1", "0/1", "0/1 1/3 (11*)"}, {newDesk, "first 8190/8191", "8190/8191", "8190/8191 1/3 (11*)"}, {newDesk, "first 1/7", "1/7", newDesk},
		{newDesk, "second 3/8", "3/8", "1/7 3/8 (11*)"}, {newDesk, "second 0/1", "0/1", "1/7 0/1 (11*)"}, {newDesk, "second 1/8179", "1/8179", "1/7 1/8179 (11*)"}, {"0/1 1/2 (*)", "second 1/2", "1/2", "0/1 1/2 (*)"},
		{newDesk, "swap", "1/3", "1/3 1/7 (11*)"}, {"1/8191 0/1 0(1)", "swap", "0/1", "0/1 1/8191 0(1)"}, {"2/5 2/5 (*)", "swap", "2/5", "2/5 2/5 (*)"},
		{newDesk, "double", "2/7", "2/7 1/3 (11*)"}, {"1/2 1/3 (0)", "double", "0/1", "0/1 1/3 (0)"}, {"5/6 1/7 (0)", "double", "2/3", "2/3 1/7 (0)"}, {"0/1 1/7 (0)", "double", "0/1", "0/1 1/7 (0)"},
		{newDesk, "add", "10/21", "10/21 1/3 (11*)"}, {"3/4 1/4 (0)", "add", "0/1", "0/1 1/4 (0)"}, {"5/6 2/3 (0)", "add", "1/2", "1/2 2/3 (0)"}, {"1/90 1/91 (0)", "add", "181/8190", "181/8190 1/91 (0)"}, {"1/8191 8189/8191 (0)", "add", "8190/8191", "8190/8191 8189/8191 (0)"},
		{newDesk, "opposite", "6/7", "6/7 1/3 (11*)"}, {"0/1 1/3 (0)", "opposite", "0/1", "0/1 1/3 (0)"}, {"1/2 1/3 (0)", "opposite", "1/2", "1/2 1/3 (0)"}, {"8190/8191 1/3 (0)", "opposite", "1/8191", "1/8191 1/3 (0)"},
		{newDesk, "partner", "2/7", "2/7 1/3 (11*)"}, {"2/7 1/3 (11*)", "partner", "1/7", newDesk}, {"13/31 1/2 (0)", "partner", "18/31", "18/31 1/2 (0)"}, {"254/255 1/2 (0)", "partner", "253/255", "253/255 1/2 (0)"},
		{"1/2 1/5 0(1)", "reset", "ok", newDesk}, {newDesk, "reset", "ok", newDesk},
	} {
		checkLine(t, c[0], c[1], c[2], c[3])
	}
	for _, c := range [][2]string{
		{"1/8191 1/2 (0)", "add"}, {"1/90 1/97 (0)", "add"}, {"1/64 1/129 (0)", "add"}, {"8190/8191 1/8190 (0)", "add"},
		{"0/1 1/3 (0)", "partner"}, {"1/2 1/3 (0)", "partner"}, {"1/6 1/7 (0)", "partner"}, {"1/511 1/7 (0)", "partner"}, {"1/8179 1/7 (0)", "partner"},
	} {
		checkWrong(t, c[0], c[1])
	}
}

// TestLinesThatChangeTheSequence has the lines of the table that change the sequence.
func TestLinesThatChangeTheSequence(t *testing.T) {
	letters := strings.Repeat("0", 63)
	for _, c := range [][4]string{
		{newDesk, "sequence 0(01)", "0(01)", "1/7 1/3 0(01)"}, {newDesk, "sequence (*)", "(*)", "1/7 1/3 (*)"}, {"1/2 0/1 (*)", "sequence *(1)", "*(1)", "1/2 0/1 *(1)"}, {newDesk, "sequence (" + letters + "*)", "(" + letters + "*)", "1/7 1/3 (" + letters + "*)"}, {newDesk, "sequence (11*)", "(11*)", newDesk},
		{newDesk, "expansion", "(001)", "1/7 1/3 (001)"}, {"1/6 1/3 (*)", "expansion", "0(01)", "1/6 1/3 0(01)"}, {"0/1 1/3 (*)", "expansion", "(0)", "0/1 1/3 (0)"}, {"1/2 1/3 (*)", "expansion", "1(0)", "1/2 1/3 1(0)"},
		{newDesk, "shift", "(1*1)", "1/7 1/3 (1*1)"}, {"0/1 0/1 0(01)", "shift", "(01)", "0/1 0/1 (01)"}, {"0/1 0/1 *1(0)", "shift", "1(0)", "0/1 0/1 1(0)"}, {"0/1 0/1 (*)", "shift", "(*)", "0/1 0/1 (*)"}, {"0/1 0/1 0(1)", "shift", "(1)", "0/1 0/1 (1)"},
		{newDesk, "itinerary", "(011)", "1/7 1/3 (011)"}, {"1/7 1/7 (0)", "itinerary", "(11*)", "1/7 1/7 (11*)"}, {"1/3 1/7 (0)", "itinerary", "(10)", "1/3 1/7 (10)"}, {"1/14 1/7 (0)", "itinerary", "(*11)", "1/14 1/7 (*11)"}, {"3/14 1/7 (0)", "itinerary", "1(100)", "3/14 1/7 1(100)"}, {"1/4 1/2 (0)", "itinerary", "*1(0)", "1/4 1/2 *1(0)"}, {"0/1 1/2 (1)", "itinerary", "(0)", "0/1 1/2 (0)"}, {"1/7 1/8179 (0)", "itinerary", "(110)", "1/7 1/8179 (110)"},
		{"3/7 1/3 (0)", "kneading", "(10*)", "3/7 1/3 (10*)"}, {"1/3 1/7 (0)", "kneading", "(1*)", "1/3 1/7 (1*)"}, {"1/2 1/7 (0)", "kneading", "1(0)", "1/2 1/7 1(0)"}, {"0/1 1/7 (0)", "kneading", "(*)", "0/1 1/7 (*)"}, {"1/7 1/8179 (0)", "kneading", "(11*)", "1/7 1/8179 (11*)"}, {newDesk, "kneading", "(11*)", newDesk},
	} {
		checkLine(t, c[0], c[1], c[2], c[3])
	}
	for _, x := range []string{"1/8179", "1/131", "1/1282"} {
		for _, line := range []string{"expansion", "itinerary", "kneading", "orbit"} {
			checkWrong(t, x+" 1/3 (11*)", line)
		}
	}
}

// TestLinesThatChangeNothing has the other lines of the table, for which the desk stays as it is.
func TestLinesThatChangeNothing(t *testing.T) {
	for _, c := range [][3]string{
		{newDesk, "show", "1/7"}, {"0/1 1/8179 *(1)", "show", "0/1"}, {newDesk, "other", "1/3"}, {"0/1 1/8179 *(1)", "other", "1/8179"}, {newDesk, "word", "(11*)"}, {"0/1 1/8179 *(1)", "word", "*(1)"}, {"0/1 0/1 0*1(10)", "word", "0*1(10)"},
		{newDesk, "orbit", "1/7 2/7 4/7"}, {"1/6 1/7 (0)", "orbit", "1/6 1/3 2/3"}, {"0/1 1/7 (0)", "orbit", "0/1"}, {"3/4 1/7 (0)", "orbit", "3/4 1/2 0/1"},
		{newDesk, "address", "1 3"}, {"0/1 0/1 (*)", "address", "1"}, {"0/1 0/1 (10*)", "address", "1 2 3"}, {"0/1 0/1 1(0)", "address", "1 2 3 4 5 6 7 8 9 10 11 12 13 14 15 16 17 18 19 20"}, {"0/1 0/1 (1)", "address", "1"},
		{newDesk, "rho 1", "3"}, {newDesk, "rho 2", "3"}, {newDesk, "rho 4", "6"}, {"0/1 0/1 (10*)", "rho 1", "2"}, {"0/1 0/1 (10*)", "rho 1000", "1001"}, {"0/1 0/1 1(0)", "rho 1000", "1001"},
		{newDesk, "admissible", "yes"}, {"0/1 0/1 (*)", "admissible", "yes"}, {"0/1 0/1 (10110*)", "admissible", "no"}, {"0/1 0/1 (10111*)", "admissible", "yes"},
		{newDesk, "words 3", "10* 11*"}, {newDesk, "words 1", "*"}, {newDesk, "words 2", "1*"}, {newDesk, "words 4", "100* 101* 110* 111*"},
		{newDesk, "pair", "1/7 2/7"}, {"2/7 1/3 (0)", "pair", "1/7 2/7"}, {"18/31 1/3 (0)", "pair", "13/31 18/31"}, {"2/3 0/1 (0)", "pair", "1/3 2/3"},
		{newDesk, "width", "1/7"}, {"1/3 1/7 (0)", "width", "1/3"}, {"18/31 1/7 (0)", "width", "5/31"}, {"3/5 1/7 (0)", "width", "1/5"}, {"1/255 1/7 (0)", "width", "1/255"},
		{newDesk, "satellite", "yes"}, {"3/7 1/3 (0)", "satellite", "no"}, {"2/5 1/3 (0)", "satellite", "yes"}, {"13/31 1/3 (0)", "satellite", "no"},
		{newDesk, "depth", "0"}, {"3/7 1/3 (0)", "depth", "1"}, {"13/31 1/3 (0)", "depth", "2"}, {"1/3 1/7 (0)", "depth", "0"},
		{newDesk, "wakes 8", "none"}, {"1/2 1/3 (0)", "wakes 2", "1/3 2/3"}, {"1/2 1/3 (0)", "wakes 3", "1/3 2/3 / 3/7 4/7"}, {"0/1 1/3 (0)", "wakes 8", "none"}, {"13/31 1/3 (0)", "wakes 5", "1/3 2/3 / 2/5 3/5"}, {"1/8179 1/3 (0)", "wakes 8", "none"}, {"1/6 1/3 (0)", "wakes 3", "1/7 2/7"},
		{newDesk, "vertices", "(11*) (1*1) (*11) (1)"}, {"0/1 0/1 (*)", "vertices", "(*)"}, {"0/1 0/1 (1*)", "vertices", "(1*) (*1)"}, {"0/1 0/1 (10*)", "vertices", "(10*) (0*1) (*10)"},
		{newDesk, "edges", "0 3 / 1 3 / 2 3"}, {"0/1 0/1 (*)", "edges", "none"}, {"0/1 0/1 (1*)", "edges", "0 1"}, {"0/1 0/1 (10*)", "edges", "0 2 / 1 2"},
		{newDesk, "path 0 1", "0 3 1"}, {newDesk, "path 1 0", "1 3 0"}, {newDesk, "path 3 2", "3 2"}, {newDesk, "path 2 2", "2"}, {"0/1 0/1 (*)", "path 0 0", "0"}, {"0/1 0/1 (10*)", "path 1 0", "1 2 0"},
		{newDesk, "polynomial", "-1 0 0 1"}, {"3/7 1/3 (0)", "polynomial", "0 -1 -1 1"}, {"0/1 1/3 (0)", "polynomial", "1"}, {"1/3 1/7 (0)", "polynomial", "-1 1"},
		{newDesk, "paths 0", "3"}, {newDesk, "paths 40", "3"}, {"3/7 1/3 (0)", "paths 3", "10"}, {"3/7 1/3 (0)", "paths 0", "3"}, {"0/1 1/3 (0)", "paths 7", "0"},
		{newDesk, "classes 1", "0"}, {"1/6 1/3 (0)", "classes 7", "0 / 1 2 4 / 3 / 5 / 6"}, {"0/1 1/3 (0)", "classes 2", "0 1"}, {"1/2 1/3 (0)", "classes 4", "0 / 1 3 / 2"},
		{"1/6 1/6 (0)", "joined 7", "0 / 1 2 4 / 3 5 6"}, {"1/6 0/1 (0)", "joined 2", "0 1"}, {"1/6 1/3 (0)", "joined 1", "0"}, {"1/6 8190/8191 (0)", "joined 7", "0 / 1 2 4 / 3 / 5 / 6"}, {"8190/8191 1/6 (0)", "joined 7", "0 / 1 / 2 / 3 5 6 / 4"},
		{newDesk, "limb", "1/7 2/7"}, {"3/7 1/3 (0)", "limb", "1/3 2/3"}, {"254/255 1/3 (0)", "limb", "253/255 254/255"}, {"1/2 1/7 (0)", "limb", "1/3 2/3"},
		{newDesk, "obstructed", "no"}, {"3/7 1/3 (0)", "obstructed", "yes"}, {"1/7 6/7 (0)", "obstructed", "yes"}, {"1/7 1/7 (0)", "obstructed", "no"}, {"0/1 0/1 (0)", "obstructed", "no"},
	} {
		checkLine(t, c[0], c[1], c[2], "")
	}
}

// TestLinesWithACode has lines of the table whose function returns another code than ErrNone.
func TestLinesWithACode(t *testing.T) {
	for from, all := range map[string][]string{
		newDesk:                 {"rho 0", "rho 3", "rho 6", "rho 999", "rho 1001", "rho 999999999", "words 0", "words 11", "words 999999999", "wakes 0", "wakes 1", "wakes 9", "path 0 4", "path 4 0", "path 4 4", "path 999999999 0", "paths 41", "classes 0", "classes 64", "joined 0", "joined 64"},
		"0/1 1/3 (1)":           {"rho 1", "rho 1000", "partner", "pair", "width", "satellite", "depth", "limb", "admissible", "vertices", "edges", "path 0 0"},
		"1/2 1/3 0(1*)":         {"partner", "pair", "width", "satellite", "depth", "admissible", "vertices", "edges", "path 0 0", "wakes 1"},
		"1/511 1/3 (*1)":        {"partner", "pair", "width", "satellite", "depth", "limb", "polynomial", "paths 0", "paths 1", "admissible", "vertices", "edges", "path 0 1"},
		"1/8179 1/3 (0*)":       {"partner", "pair", "width", "satellite", "depth", "limb", "polynomial", "paths 2", "orbit", "expansion", "kneading", "itinerary", "add", "admissible", "vertices"},
		"1/17 1/3 (*)":          {"polynomial", "paths 3", "rho 1", "path 0 1", "path 1 1", "path 1 0"},
		"1/128 1/7 (10000000*)": {"vertices", "edges", "path 0 0", "polynomial", "paths 0"},
	} {
		for _, line := range all {
			checkWrong(t, from, line)
		}
	}
}

// checkNoDesk checks what RunLine returns for something that is no desk.
func checkNoDesk(t *testing.T, d impl.Desk, line string) {
	t.Helper()
	if next, output := impl.RunLine(d, line); next != (impl.Desk{}) || output != "" {
		t.Errorf("RunLine(%v, %q): got %v, %q", d, line, next, output)
	}
}

// TestLinesOnNoDesk runs lines of all kinds, also wrong ones, on what is no desk.
func TestLinesOnNoDesk(t *testing.T) {
	for _, d := range notDesks() {
		for _, line := range []string{"show", "other", "word", "reset", "first 1/7", "second 1/3", "sequence (11*)", "swap", "words 3", "path 0 1", "fly", "", " ", "rho"} {
			checkNoDesk(t, d, line)
		}
	}
}

// tails returns what is behind a command in a right line, for those that have something there.
func tails() map[string]string {
	return map[string]string{
		"first": " 3/8", "second": " 3/8", "sequence": " 1(0)", "rho": " 1", "words": " 3", "wakes": " 3", "paths": " 3", "classes": " 7", "joined": " 7", "path": " 0 1",
	}
}

// TestWordsThatAreMissingOrTooMany has each command with as many words as the table tells, with one that is
// missing, and with one too many, which may be empty.
func TestWordsThatAreMissingOrTooMany(t *testing.T) {
	for _, name := range commandNames() {
		tail := tails()[name]
		line := name + tail
		if _, output := impl.RunLine(impl.NewDesk(), line); output == "error" || output == "" {
			t.Errorf("RunLine(new desk, %q): got %q", line, output)
		}
		wrong := []string{" " + line, line + " ", line + "  ", "  " + line, line + " 0", line + " 1", line + " x", line + " " + name, line + " 1/7", line + "\n", line + "\r", line + "\t", "\t" + line, line + "\x00", line + "\u00a0", line + "\xff", "\ufeff" + line}
		if tail != "" {
			wrong = append(wrong, name, name+" ", name+"  ", name+" "+tail, name+tail[1:], name+"\t"+tail[1:], name+"\u00a0"+tail[1:], name+" x", name+" ,", name+" none")
		}
		if name == "path" {
			wrong = append(wrong, "path 0", "path 0 ", "path  0", "path 0  1", "path  0 1", "path 0 1 2", "path 0,1", "path 0 x", "path x 1", "path 0 /", "path 01 1", "path 0 01", "path -1 0", "path 0 -1", "path 0 +1")
		}
		for _, bad := range wrong {
			checkWrong(t, newDesk, bad)
		}
	}
}

// TestCommandsThatAreNone has lines whose first word is no command.
func TestCommandsThatAreNone(t *testing.T) {
	for _, line := range []string{"", " ", "  ", "\n", "\t", "\r", "\x00", "\xff", "fly", "1/7", "(11*)", "0", "none", "ok", "error", "yes", "X", "T", "S", "TEXT", "help", "quit", "first,", "third 1/7", "Desk", "#", "show;", "show\nshow", "show\nfirst 1/3", "show other", "fly high", "é", "/", "first/3", "set 1/7"} {
		checkWrong(t, newDesk, line)
	}
	for _, name := range commandNames() {
		tail := tails()[name]
		for _, bad := range []string{strings.ToUpper(name), strings.ToUpper(name[:1]) + name[1:], name[:len(name)-1] + strings.ToUpper(name[len(name)-1:]), name[1:], name + "x", name + name, "x" + name, name + "\n", name[:1] + " " + name[1:]} {
			checkWrong(t, newDesk, bad+tail)
			checkWrong(t, newDesk, bad)
		}
	}
}

// TestNumbersInLines has numbers as they are written, and what is no number.
func TestNumbersInLines(t *testing.T) {
	for line, output := range map[string]string{"paths 0": "3", "paths 1": "3", "paths 10": "3", "paths 40": "3", "path 0 0": "0", "rho 10": "12", "rho 1000": "1002", "words 10": strings.Join(allWordsOf(t, 10), " "), "classes 10": "0 / 1 / 2 / 3 / 4 / 5 / 6 / 7 / 8 / 9"} {
		checkLine(t, newDesk, line, output, "")
	}
	// With nine digits they are numbers, but not in range.
	for _, word := range []string{
		"00", "01", "001", "000000003", "0000000001", "03", "010", "-0", "-1", "-3", "+1", "+0", "+3", "--1", "1-", "3.0", "3.", ".3", "3e0", "1e1", "0x3", "0b1", "0o3", "1_0", "1,0", "3/1", "3;", "three", "x", "N", "*", "(3)", "''", "\"3\"",
		"100000000", "999999999", "1000000000", "1000000001", "9999999999", "4294967296", "4294967299", "18446744073709551616", "18446744073709551619", "9223372036854775807", "9223372036854775808", "-9223372036854775808", "-18446744073709551613", strings.Repeat("0", 100) + "3", "3" + strings.Repeat("0", 100),
		"", "\n", "3\n", "3\r", "3\t", "\t3", "3\x00", "\xff", "3\xff", "٣", "３", "²", "Ⅲ", "3\u00a0", "\u200b3",
	} {
		for _, name := range []string{"rho", "words", "wakes", "paths", "classes", "joined"} {
			checkWrong(t, newDesk, name+" "+word)
		}
		checkWrong(t, newDesk, "path "+word+" 0")
		checkWrong(t, newDesk, "path 0 "+word)
		checkWrong(t, newDesk, "path "+word+" "+word)
	}
}

// allWordsOf returns the words that AdmissibleWords returns.
func allWordsOf(t *testing.T, n int64) []string {
	t.Helper()
	list, code := impl.AdmissibleWords(n)
	if code != impl.ErrNone || len(list) < 100 {
		t.Fatalf("AdmissibleWords(%d): %d words, %d", n, len(list), code)
	}
	return list
}

// TestTextsInLines has texts that are none of an angle or of a sequence, that have blanks in them, or that
// are missing.
func TestTextsInLines(t *testing.T) {
	angles := []string{"", " ", "1", "/", "1/", "/7", "7/1", "1/1", "0/0", "0/2", "2/6", "1/0", "-1/7", "1/-7", "+1/7", "1/+7", "01/7", "1/07", "00/1", "1/8192", "8191/8191", "1//7", "1/7/1", "1 7", "1 /7", "1/ 7", "1 / 7", " 1/7", "1/7 ", "1/7 1/3", "1/7  ", "1/7\n", "1/7\r", "1/7\t", "\t1/7", "1/7\x00", "1/7\xff", "1⁄7", "1∕7", "0.5", "1e0/7", "0x1/7", "(001)", "x", "none", "3/18446744073709551623"}
	sequences := []string{"", " ", "(", ")", "()", "(11*", "11*)", "11*", "0()", "(11)", "0(10)", "1(1)", "(2)", "2(1)", "(0 1)", "0 (01)", "0( 01)", "0(01 )", " (01)", "(01) ", "(01)  ", "(01) (01)", "(01) x", "(01)\n", "(01)\r", "\t(01)", "(01)\x00", "(\xff)", "((01))", "(0)1", "(0)(1)", "[01]", "１(0)", "1/3", "x", "none", "(" + strings.Repeat("0", 64) + "1)", strings.Repeat("0", 64) + "(1)"}
	for _, from := range []string{newDesk, "1/2 1/5 0(1)"} {
		for _, word := range angles {
			checkWrong(t, from, "first "+word)
			checkWrong(t, from, "second "+word)
		}
		for _, word := range sequences {
			checkWrong(t, from, "sequence "+word)
		}
	}
	for _, x := range []string{"0/1", "1/2", "1/3", "8190/8191", "4095/8191", "1/4096", "10/21"} {
		checkLine(t, newDesk, "first "+x, x, x+" 1/3 (11*)")
		checkLine(t, newDesk, "second "+x, x, "1/7 "+x+" (11*)")
	}
	for _, s := range slices.Concat(sampleSequences("01*"), longSequences()) {
		checkLine(t, newDesk, "sequence "+text(s), text(s), "1/7 1/3 "+text(s))
	}
}

// TestLettersOfDesksAreApart holds that the desk after a line shares no letters with the desk before it, nor
// with the line.
func TestLettersOfDesksAreApart(t *testing.T) {
	for _, line := range []string{"show", "swap", "first 1/3", "word", "fly", "first 1/1", "partner", "sequence 11(0)", "vertices"} {
		d := impl.NewDesk()
		d.Sequence = sequence("10", "1*")
		next, _ := impl.RunLine(d, line)
		begin := unsafe.StringData(line)
		for _, own := range []string{next.Sequence.Pre, next.Sequence.Per} {
			for _, other := range []string{d.Sequence.Pre, d.Sequence.Per} {
				if unsafe.StringData(own) == unsafe.StringData(other) {
					t.Errorf("RunLine(%v, %q): the desk %v shares letters with it", d, line, next)
				}
			}
			if at := uintptr(unsafe.Pointer(unsafe.StringData(own))) - uintptr(unsafe.Pointer(begin)); at < uintptr(len(line)) {
				t.Errorf("RunLine(%v, %q): the desk %v shares letters with the line", d, line, next)
			}
		}
	}
}

// TestSameLinesAgain runs lines twice, and beside each other: nothing is kept between them.
func TestSameLinesAgain(t *testing.T) {
	done := make(chan string)
	run := func() {
		written := ""
		for _, name := range commandNames() {
			next, output := impl.RunLine(impl.NewDesk(), name+tails()[name])
			written += fmt.Sprintln(deskText(next), output)
		}
		done <- written
	}
	for range 8 {
		go run()
	}
	first := <-done
	for range 7 {
		if other := <-done; other != first {
			t.Errorf("the same lines: got %q; and %q", first, other)
		}
	}
}
