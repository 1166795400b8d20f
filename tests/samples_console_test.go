package tests

import (
	"fmt"
	"regexp"
	"slices"
	"strconv"
	"strings"
	"sync"
	"testing"

	"loop.example/g01234/impl"
)

// newDesk is the new desk as deskText writes it.
const newDesk = "1/7 1/3 (11*)"

// deskOf writes a desk shortly, as the texts of its parts with blanks between them. It is not checked, so
// that what is no desk can be written, too.
func deskOf(written string) impl.Desk {
	d := impl.Desk{}
	words := ""
	if _, err := fmt.Sscanf(written, "%d/%d %d/%d %s", &d.First.Num, &d.First.Den, &d.Second.Num, &d.Second.Den, &words); err != nil {
		panic(err)
	}
	pre, per, _ := strings.Cut(strings.TrimSuffix(words, ")"), "(")
	d.Sequence = sequence(pre, per)
	return d
}

// deskText writes a desk as deskOf reads it.
func deskText(d impl.Desk) string {
	return angleText(d.First) + " " + angleText(d.Second) + " " + text(d.Sequence)
}

// angleText writes an angle as its text.
func angleText(a impl.Angle) string {
	return fmt.Sprintf("%d/%d", a.Num, a.Den)
}

// pairText writes a ray pair as it is put out.
func pairText(pair impl.RayPair) string {
	return angleText(pair.Lower) + " " + angleText(pair.Upper)
}

// partsText writes the parts of a list as it is put out, each as write tells, with some text between them.
func partsText[T any](list []T, between string, write func(T) string) string {
	if len(list) == 0 {
		return "none"
	}
	all := ""
	for _, part := range list {
		all += between + write(part)
	}
	return strings.TrimPrefix(all, between)
}

// numbersText writes a list of numbers as it is put out.
func numbersText(list []int64) string {
	return partsText(list, " ", func(number int64) string { return fmt.Sprintf("%d", number) })
}

// answerText writes an answer as it is put out.
func answerText(answer bool) string {
	return map[bool]string{true: "yes", false: "no"}[answer]
}

// tableLine is a line of the table: a pattern of it, and what it does with a desk and its words: what is put
// out, and the code of its function.
type tableLine struct {
	pattern string
	do      func(d *impl.Desk, words []string) (string, int64)
}

// putAngle writes an angle that is put into a desk.
func putAngle(place *impl.Angle, a impl.Angle, code int64) (string, int64) {
	*place = a
	return angleText(a), code
}

// putSequence writes a sequence that is put into a desk.
func putSequence(place *impl.Sequence, s impl.Sequence, code int64) (string, int64) {
	*place = s
	return text(s), code
}

// numberOf returns the number that a word tells, which a pattern has let through.
func numberOf(word string) int64 {
	number, err := strconv.Atoi(word)
	if err != nil {
		panic(err)
	}
	return int64(number)
}

// changingLines returns the lines of the table that change a desk.
func changingLines() []tableLine {
	return []tableLine{
		{`first (.*)`, func(d *impl.Desk, words []string) (string, int64) {
			a, code := impl.ParseAngle(words[0])
			return putAngle(&d.First, a, code)
		}},
		{`second (.*)`, func(d *impl.Desk, words []string) (string, int64) {
			a, code := impl.ParseAngle(words[0])
			return putAngle(&d.Second, a, code)
		}},
		{`sequence (.*)`, func(d *impl.Desk, words []string) (string, int64) {
			s, code := impl.ParseSequence(words[0])
			return putSequence(&d.Sequence, s, code)
		}},
		{`swap`, func(d *impl.Desk, _ []string) (string, int64) {
			before := *d
			d.Second = before.First
			return putAngle(&d.First, before.Second, impl.ErrNone)
		}},
		{`double`, func(d *impl.Desk, _ []string) (string, int64) {
			a, code := impl.DoubleAngle(d.First)
			return putAngle(&d.First, a, code)
		}},
		{`add`, func(d *impl.Desk, _ []string) (string, int64) {
			a, code := impl.AddAngles(d.First, d.Second)
			return putAngle(&d.First, a, code)
		}},
		{`opposite`, func(d *impl.Desk, _ []string) (string, int64) {
			a, code := impl.OppositeAngle(d.First)
			return putAngle(&d.First, a, code)
		}},
		{`partner`, func(d *impl.Desk, _ []string) (string, int64) {
			a, code := impl.PartnerOf(d.First)
			return putAngle(&d.First, a, code)
		}},
		{`expansion`, func(d *impl.Desk, _ []string) (string, int64) {
			s, code := impl.ExpansionOf(d.First)
			return putSequence(&d.Sequence, s, code)
		}},
		{`shift`, func(d *impl.Desk, _ []string) (string, int64) {
			s, code := impl.ShiftSequence(d.Sequence)
			return putSequence(&d.Sequence, s, code)
		}},
		{`itinerary`, func(d *impl.Desk, _ []string) (string, int64) {
			s, code := impl.ItineraryOf(d.First, d.Second)
			return putSequence(&d.Sequence, s, code)
		}},
		{`kneading`, func(d *impl.Desk, _ []string) (string, int64) {
			s, code := impl.KneadingOf(d.First)
			return putSequence(&d.Sequence, s, code)
		}},
		{`reset`, func(d *impl.Desk, _ []string) (string, int64) {
			*d = deskOf(newDesk)
			return "ok", impl.ErrNone
		}},
	}
}

// lookingLines returns the lines of the table that look at the parts of a desk alone, but for those about
// trees and about classes.
func lookingLines() []tableLine {
	return []tableLine{
		{`show`, func(d *impl.Desk, _ []string) (string, int64) { return angleText(d.First), impl.ErrNone }},
		{`other`, func(d *impl.Desk, _ []string) (string, int64) { return angleText(d.Second), impl.ErrNone }},
		{`word`, func(d *impl.Desk, _ []string) (string, int64) { return text(d.Sequence), impl.ErrNone }},
		{`orbit`, func(d *impl.Desk, _ []string) (string, int64) {
			list, code := impl.OrbitOf(d.First)
			return partsText(list, " ", angleText), code
		}},
		{`address`, func(d *impl.Desk, _ []string) (string, int64) {
			list, code := impl.InternalAddress(d.Sequence)
			return numbersText(list), code
		}},
		{`rho N`, func(d *impl.Desk, words []string) (string, int64) {
			number, code := impl.RhoOf(d.Sequence, numberOf(words[0]))
			return fmt.Sprint(number), code
		}},
		{`admissible`, func(d *impl.Desk, _ []string) (string, int64) {
			answer, code := impl.IsAdmissible(d.Sequence)
			return answerText(answer), code
		}},
		{`words N`, func(_ *impl.Desk, words []string) (string, int64) {
			list, code := impl.AdmissibleWords(numberOf(words[0]))
			return partsText(list, " ", strings.Clone), code
		}},
		{`pair`, func(d *impl.Desk, _ []string) (string, int64) {
			pair, code := impl.PairOf(d.First)
			return pairText(pair), code
		}},
		{`width`, func(d *impl.Desk, _ []string) (string, int64) {
			a, code := impl.WidthOf(d.First)
			return angleText(a), code
		}},
		{`satellite`, func(d *impl.Desk, _ []string) (string, int64) {
			answer, code := impl.IsSatellite(d.First)
			return answerText(answer), code
		}},
		{`depth`, func(d *impl.Desk, _ []string) (string, int64) {
			number, code := impl.DepthOf(d.First)
			return fmt.Sprint(number), code
		}},
		{`wakes N`, func(d *impl.Desk, words []string) (string, int64) {
			list, code := impl.WakesAround(d.First, numberOf(words[0]))
			return partsText(list, " / ", pairText), code
		}},
	}
}

// treeAndClassLines returns the lines of the table about trees, matrices and classes.
func treeAndClassLines() []tableLine {
	return []tableLine{
		{`vertices`, func(d *impl.Desk, _ []string) (string, int64) {
			list, code := impl.TreeVertices(d.Sequence)
			return partsText(list, " ", text), code
		}},
		{`edges`, func(d *impl.Desk, _ []string) (string, int64) {
			list, code := impl.TreeEdges(d.Sequence)
			return partsText(list, " / ", numbersText), code
		}},
		{`path N N`, func(d *impl.Desk, words []string) (string, int64) {
			list, code := impl.TreePath(d.Sequence, numberOf(words[0]), numberOf(words[1]))
			return numbersText(list), code
		}},
		{`polynomial`, func(d *impl.Desk, _ []string) (string, int64) {
			list, code := impl.PairPolynomial(d.First)
			return numbersText(list), code
		}},
		{`paths N`, func(d *impl.Desk, words []string) (string, int64) {
			number, code := impl.PathCount(d.First, numberOf(words[0]))
			return fmt.Sprint(number), code
		}},
		{`classes N`, func(d *impl.Desk, words []string) (string, int64) {
			list, code := impl.ClassesOf(d.First, numberOf(words[0]))
			return partsText(list, " / ", numbersText), code
		}},
		{`joined N`, func(d *impl.Desk, words []string) (string, int64) {
			list, code := impl.JoinedClasses(d.First, d.Second, numberOf(words[0]))
			return partsText(list, " / ", numbersText), code
		}},
		{`limb`, func(d *impl.Desk, _ []string) (string, int64) {
			pair, code := impl.LimbOf(d.First)
			return pairText(pair), code
		}},
		{`obstructed`, func(d *impl.Desk, _ []string) (string, int64) {
			answer, code := impl.AreObstructed(d.First, d.Second)
			return answerText(answer), code
		}},
	}
}

// tablePatterns returns the patterns of all lines of the table with the lines. They are read once, as this
// takes a while.
var tablePatterns = sync.OnceValue(func() map[*regexp.Regexp]tableLine {
	patterns := map[*regexp.Regexp]tableLine{}
	for _, line := range slices.Concat(changingLines(), lookingLines(), treeAndClassLines()) {
		pattern := strings.ReplaceAll(line.pattern, "N", "(0|[1-9][0-9]{0,8})")
		patterns[regexp.MustCompile(`(?s)\A`+pattern+`\z`)] = line
	}
	return patterns
})

// lineByHand returns the desk after a line, and its output, by the table and the functions that its lines
// call. No line is like two patterns.
func lineByHand(d impl.Desk, line string) (impl.Desk, string) {
	for pattern, entry := range tablePatterns() {
		words := pattern.FindStringSubmatch(line)
		if words == nil {
			continue
		}
		next := d
		if output, code := entry.do(&next, words[1:]); code == impl.ErrNone {
			return next, output
		}
	}
	return d, "error"
}

// notDesks returns structs that are no desks, each because of one of its parts, or of all.
func notDesks() []impl.Desk {
	list := []impl.Desk{{}}
	for _, bad := range notAngles() {
		for _, written := range []string{newDesk, "0/1 0/1 (*)", "8190/8191 1/2 0(1)"} {
			first, second := deskOf(written), deskOf(written)
			first.First, second.Second = bad, bad
			list = append(list, first, second, impl.Desk{First: bad, Second: bad, Sequence: first.Sequence})
		}
	}
	for _, bad := range notSequences() {
		for _, written := range []string{newDesk, "0/1 0/1 (*)"} {
			d := deskOf(written)
			d.Sequence = bad
			list = append(list, d)
		}
	}
	return list
}

// commandNames returns all commands, in the order of the table.
func commandNames() []string {
	return strings.Fields("first second swap double add opposite show other word orbit expansion sequence shift itinerary kneading address rho admissible words partner pair width satellite depth wakes vertices edges path polynomial paths classes joined limb obstructed reset")
}

// checkLine checks what a line does on a desk, both written as deskText writes them. Without a desk after it
// the desk has to stay as it is.
func checkLine(t *testing.T, from, line, output, to string) {
	t.Helper()
	if to == "" {
		to = from
	}
	next, got := impl.RunLine(deskOf(from), line)
	if got != output || next != deskOf(to) {
		t.Errorf("RunLine(%s, %q): got %s, %q; want %s, %q", from, line, deskText(next), got, to, output)
	}
}

// checkWrong checks that a line is wrong on a desk: its output is error, and it changes nothing.
func checkWrong(t *testing.T, from, line string) {
	t.Helper()
	checkLine(t, from, line, "error", "")
}

// checkRun checks the outputs of the lines of a text, and the desk after them.
func checkRun(t *testing.T, given, outputs, to string) {
	t.Helper()
	got := impl.Console(given)
	if got != outputs {
		t.Errorf("Console(%q): got %q; want %q", given, got, outputs)
	}
	d, taken := impl.DeskAfter(given)
	if d != deskOf(to) || !taken {
		t.Errorf("DeskAfter(%q): got %s, %v; want %s, true", given, deskText(d), taken, to)
	}
}

// checkTooLarge checks that the console refuses a text because of its limits.
func checkTooLarge(t *testing.T, given string) {
	t.Helper()
	if got := impl.Console(given); got != "" {
		t.Errorf("Console of %d bytes: got %q", len(given), got)
	}
	if d, taken := impl.DeskAfter(given); d != (impl.Desk{}) || taken {
		t.Errorf("DeskAfter of %d bytes: got %v, %v", len(given), d, taken)
	}
}
