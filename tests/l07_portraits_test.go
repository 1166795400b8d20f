package tests

import (
	"fmt"
	"slices"
	"strings"
	"testing"

	"loop.example/g01234/impl"
)

func TestConstantsOfChapter7(t *testing.T) {
	if impl.MaxSets != 12 {
		t.Errorf("the limit is %d", impl.MaxSets)
	}
}

// handPortrait is a portrait that is written out, with what it is; there is no arc if the valence is
// 1.
type handPortrait struct {
	sets     [][]impl.Angle
	valence  int64
	rotation impl.Angle
	arc      []impl.Angle
}

// knownPortraits returns portraits of many kinds. In no portrait does the characteristic arc go
// across 0, but in many of them others do.
func knownPortraits() []handPortrait {
	return []handPortrait{
		// The valence 1: sets of one angle, up to MaxSets of them.
		{setsOver(1, "0"), 1, angle(0, 1), nil}, {setsOver(3, "1", "2"), 1, angle(0, 1), nil}, {setsOver(3, "2", "1"), 1, angle(0, 1), nil}, {setsOver(7, "1", "2", "4"), 1, angle(0, 1), nil},
		{setsOver(15, "7", "14", "13", "11"), 1, angle(0, 1), nil}, {eachAlone(1, 2047), 1, angle(0, 1), nil}, {eachAlone(1, 4095), 1, angle(0, 1), nil}, {eachAlone(3, 13), 1, angle(0, 1), nil},
		// One set, of two angles and of many.
		{setsOver(3, "1 2"), 2, angle(1, 2), over(3, "1 2")}, {setsOver(7, "1 2 4"), 3, angle(1, 3), over(7, "1 2")}, {setsOver(7, "3 5 6"), 3, angle(2, 3), over(7, "5 6")},
		{setsOver(15, "1 2 4 8"), 4, angle(1, 4), over(15, "1 2")}, {setsOver(15, "7 11 13 14"), 4, angle(3, 4), over(15, "13 14")}, {setsOver(31, "5 9 10 18 20"), 5, angle(2, 5), over(31, "9 10")},
		{setsOver(31, "11 13 21 22 26"), 5, angle(3, 5), over(31, "21 22")}, {setsOver(4095, "1 2 4 8 16 32 64 128 256 512 1024 2048"), 12, angle(1, 12), over(4095, "1 2")},
		// Two angles that come back as they are: the index is 0. The arc is in the first set, or behind it.
		{setsOver(7, "3 4", "1 6", "2 5"), 2, angle(0, 1), over(7, "3 4")}, {setsOver(7, "1 6", "2 5", "3 4"), 2, angle(0, 1), over(7, "3 4")}, {setsOver(7, "2 5", "3 4", "1 6"), 2, angle(0, 1), over(7, "3 4")},
		{setsOver(15, "3 4", "6 8", "1 12", "2 9"), 2, angle(0, 1), over(15, "3 4")}, {setsOver(15, "1 12", "2 9", "3 4", "6 8"), 2, angle(0, 1), over(15, "3 4")}, {setsOver(15, "7 8", "1 14", "2 13", "4 11"), 2, angle(0, 1), over(15, "7 8")},
		{setsOver(31, "13 18", "5 26", "10 21", "11 20", "9 22"), 2, angle(0, 1), over(31, "13 18")},
		{setsOver(4095, "3 4", "6 8", "12 16", "24 32", "48 64", "96 128", "192 256", "384 512", "768 1024", "1536 2048", "1 3072", "2 2049"), 2, angle(0, 1), over(4095, "3 4")},
		// Two angles that come back turned: the index is 1.
		{setsOver(5, "2 3", "1 4"), 2, angle(1, 2), over(5, "2 3")}, {setsOver(5, "1 4", "2 3"), 2, angle(1, 2), over(5, "2 3")}, {setsOver(63, "10 17", "20 34", "5 40"), 2, angle(1, 2), over(63, "10 17")},
		{mirrored(1, 9, 3), 2, angle(1, 2), over(9, "4 5")}, {mirrored(4, 9, 3), 2, angle(1, 2), over(9, "4 5")}, {mirrored(1, 241, 12), 2, angle(1, 2), over(241, "120 121")}, {mirrored(7, 241, 12), 2, angle(1, 2), over(241, "117 124")},
		// Several sets of more than two angles.
		{setsOver(63, "22 25 37", "11 44 50"), 3, angle(1, 3), over(63, "22 25")}, {setsOver(63, "11 44 50", "22 25 37"), 3, angle(1, 3), over(63, "22 25")}, {setsOver(63, "26 38 41", "13 19 52"), 3, angle(2, 3), over(63, "38 41")},
		{setsOver(341, "57 228 230 238 270", "114 115 119 135 199"), 5, angle(1, 5), over(341, "114 115")}, {setsOver(341, "142 206 222 226 227", "71 103 111 113 284"), 5, angle(4, 5), over(341, "226 227")},
		{setsOver(585, "47 79 83 376", "94 158 166 167", "188 316 332 334"), 4, angle(3, 4), over(585, "166 167")}, {setsOver(1023, "179 203 716 812 818", "358 406 409 601 613"), 5, angle(2, 5), over(1023, "406 409")},
		{setsOver(4681, "1709 1713 1969 4310 4342", "3418 3426 3938 3939 4003", "2155 2171 3195 3197 3325"), 5, angle(3, 5), over(4681, "3938 3939")},
	}
}

func TestKnownPortraits(t *testing.T) {
	for _, c := range knownPortraits() {
		checkPortrait(t, c.sets, c.valence, c.rotation, c.arc)
		checkSetsByHand(t, c.sets)
	}
}

// orbitText returns the numerators of num/den and of all its doubles, which come back to it, in
// ascending order.
func orbitText(num, den int64) string {
	nums := []int64{}
	for _, set := range eachAlone(num, den) {
		nums = append(nums, set[0].Num*den/set[0].Den)
	}
	slices.Sort(nums)
	return strings.Trim(fmt.Sprint(nums), "[]")
}

// knownFailures returns sets that are no portrait, by the numbers of all conditions that do not hold.
// The fourth one is never the first of them: if the three ahead of it hold, so does it.
func knownFailures() map[string][][][]impl.Angle {
	return map[string][][][]impl.Angle{
		// An angle is in two sets: neighbours, the first and the last one, others, and all.
		"[1]": {
			setsOver(1, "0", "0"), setsOver(3, "1 2", "1 2"), setsOver(3, "1", "2", "1", "2"), setsOver(7, "1 2 4", "1 2 4"), setsOver(7, "1 2", "2 4", "1 4"),
			setsOver(7, "1", "2", "4", "1", "2", "4"), slices.Repeat(setsOver(63, "22 25 37", "11 44 50"), 3), slices.Repeat(setsOver(1, "0"), 12),
		},
		"[1 2]":       {setsOver(7, "1", "1"), setsOver(7, "1", "2", "1"), setsOver(7, "1", "2", "4", "1"), setsOver(7, "1", "4", "2", "4"), setsOver(7, "1 2 4", "1 2"), setsOver(7, "3 4", "3 5")},
		"[1 2 4]":     {setsOver(2, "0", "1", "0"), setsOver(2, "0 1", "0"), setsOver(2, "0 1", "0 1"), setsOver(6, "1", "2", "1")},
		"[1 2 5]":     {setsOver(7, "1 4", "2 5", "3 4")},
		"[1 3 4]":     {setsOver(3, "0 1 2", "0 1 2")},
		"[1 5]":       {setsOver(15, "1 2 4", "2 4 8", "1 4 8", "1 2 8")},
		"[1 2 3 4 5]": {setsOver(6, "0 1 2 3 4 5", "0 3"), setsOver(6, "0 1 3", "1 2 4 5")},
		"[2]": {
			// Sets are led to others than the next one.
			setsOver(7, "3 4", "2 5", "1 6"), setsOver(7, "1", "4", "2"), setsOver(15, "3 4", "1 12", "6 8", "2 9"), setsOver(15, "3 4", "6 8", "2 9", "1 12"),
			// The last set is not led to the first one, or one in between is not led on.
			setsOver(3, "1"), setsOver(7, "1"), setsOver(7, "1", "2"), setsOver(7, "2", "4"), setsOver(15, "3 4", "6 8", "1 12"), setsOver(15, "6 8", "1 12", "2 9"), setsOver(15, "3 4", "6 8", "2 9"),
			// One angle of a set is led to the next one, and another one is not; or a next set has more angles.
			setsOver(7, "1 2"), setsOver(7, "1", "2 4"), setsOver(7, "1 2", "4"), setsOver(15, "1 2 8"), setsOver(15, "1", "2 8", "4"), setsOver(15, "1", "2", "4", "7 8"), setsOver(641, "1"), setsOver(641, "1 2"),
		},
		"[2 4]": {
			// Two angles of a set are led to the same one. (One of them has a preperiod.)
			setsOver(2, "0 1"), setsOver(6, "2 5", "4"), setsOver(6, "4", "2 5"), setsOver(6, "1 4", "2"), setsOver(14, "1 8", "2", "4"), setsOver(14, "2", "4", "1 8"), {corners(64)[:32], corners(64)[32:]},
			// There is a preperiod, there are several periods, or orbits have more than MaxOrbit angles.
			setsOver(2, "1"), setsOver(6, "1"), setsOver(6, "1", "2", "4"), setsOver(4, "1", "2", "0"), setsOver(21, "7", "14", "3"), setsOver(131, "1"), setsOver(131, "1 2"), setsOver(8179, "1", "2"), setsOver(1282, "1"),
		},
		"[2 3 4]":   {{corners(64)}},
		"[2 3 4 5]": {setsOver(6, "0 1 3", "2 4 5")},
		"[2 4 5]":   {setsOver(12, "1 5", "3 7"), setsOver(21, "7 14", "3 6 12"), setsOver(21, "3 6 12", "7 14")},
		"[2 5]":     {setsOver(5, "1 3", "2 4"), setsOver(7, "1 4", "2 5", "3 6"), setsOver(9, "1 4", "2 8", "5 7"), setsOver(63, "11 44 50", "26 38 41", "22 25 37", "13 19 52")},
		// The cyclic order is turned around, or not kept in another way, in one set or in several ones.
		"[3]":     {setsOver(5, "1 2 3 4"), setsOver(31, "3 6 12 17 24"), setsOver(63, "3 6 12 24 33 48"), setsOver(337, orbitText(1, 337)), setsOver(641, orbitText(1, 641))},
		"[3 4]":   {setsOver(3, "0 1 2"), setsOver(7, "0 1 2 4"), setsOver(21, "3 6 7 12 14"), {corners(15)}, {corners(63)}, {corners(65)[1:]}},
		"[3 4 5]": {setsOver(15, "1 4 5", "2 8 10"), setsOver(63, "1 4 16 21", "2 8 32 42")},
		"[3 5]":   {setsOver(9, "1 4 7", "2 5 8"), setsOver(15, "1 6 13", "2 11 12", "4 7 9", "3 8 14"), setsOver(31, "1 3 5", "2 6 10", "4 12 20", "8 9 24", "16 17 18")},
		// Sets are linked: some neighbours, some others, and all; some of them across 0.
		"[5]": {
			setsOver(15, "1 4", "2 8"), setsOver(7, "1 3", "2 6", "4 5"), setsOver(7, "2 6", "4 5", "1 3"), setsOver(7, "4 5", "1 3", "2 6"), setsOver(7, "1 5", "2 3", "4 6"), setsOver(15, "1 3", "2 6", "4 12", "8 9"),
			setsOver(31, "1 5", "2 10", "4 20", "8 9", "16 18"), setsOver(63, "1 4 16", "2 8 32"), setsOver(15, "1 3 7", "2 6 14", "4 12 13", "8 9 11"), setsOver(31, "2 3 5", "4 6 10", "8 12 20", "9 16 24", "1 17 18"),
		},
	}
}

func TestKnownFailures(t *testing.T) {
	for want, list := range knownFailures() {
		for _, sets := range list {
			if failing := fmt.Sprint(conditionsByHand(sets)); failing != want {
				t.Errorf("%s is a wrong sample: %s fail", bySets(sets), failing)
			}
			checkNoPortrait(t, sets, int64(want[1]-'0'), impl.ErrNone)
		}
	}
}

// joinedSamples returns sets that follow each other by doubling, and begin with two or with three
// angles of a period, whether or not they are a portrait.
func joinedSamples() [][][]impl.Angle {
	list := [][][]impl.Angle{}
	for n := int64(2); n <= 6; n++ {
		angles := kneadingAngles(n)
		for i, a := range angles {
			for j, b := range angles[:i] {
				list = append(list, setsByHand(a, b))
				for _, c := range angles[:j] {
					if n <= 4 || n == 5 && c.Num < 8 {
						list = append(list, setsOfThree(c, b, a, n))
					}
				}
			}
		}
	}
	return list
}

// setsOfThree returns the sets of three angles, of their doubles, and so on, n sets in all.
func setsOfThree(a, b, c impl.Angle, n int64) [][]impl.Angle {
	sets := [][]impl.Angle{}
	three := []impl.Angle{a, b, c}
	for range n {
		slices.SortFunc(three, orderByHand)
		sets = append(sets, three)
		three = doublesByHand(three)
	}
	return sets
}

// TestSetsByHand holds the answers to many sets against those found without the program.
func TestSetsByHand(t *testing.T) {
	failed, portraits := map[int64]int{}, map[bool]int{}
	for _, sets := range joinedSamples() {
		failing, code := checkSetsByHand(t, sets)
		if code == impl.ErrNone {
			failed[failing]++
		}
		if failing == 0 && code == impl.ErrNone {
			portraits[len(sets[0]) > 2]++
		}
	}
	if failed[1] < 1000 || failed[3] < 1000 || failed[4] > 0 || failed[5] < 1000 || portraits[true] < 40 || portraits[false] < 150 {
		t.Errorf("the conditions %v fail, the portraits are %v", failed, portraits)
	}
}

// changed returns lists of sets that differ a little from some sets: others come first, two change
// places, the order is turned around; one is left out, taken twice, or joined to another one; an
// angle is left out, changed or put in.
func changed(sets [][]impl.Angle) [][][]impl.Angle {
	list := [][][]impl.Angle{}
	turned := slices.Clone(sets)
	slices.Reverse(turned)
	list = append(list, turned)
	for i, set := range sets {
		before, behind := sets[:i], sets[i+1:]
		with := func(others ...[]impl.Angle) { list = append(list, slices.Concat(before, others, behind)) }
		list = append(list, slices.Concat(sets[i:], before))
		with()
		with(set, set)
		for k, x := range set {
			rest := slices.Concat(set[:k], set[k+1:])
			with(rest)
			with([]impl.Angle{x}, rest)
			for _, y := range []impl.Angle{angle(0, 1), doubleByHand(x), reduced(2*x.Num+x.Den, 2*x.Den), reduced(x.Num+1, x.Den), angle(1, 3), angle(8190, 8191)} {
				with(sorted(append(rest, y)))
				with(sorted(append(slices.Clone(set), y)))
				with(set, []impl.Angle{y})
			}
		}
		if i > 0 {
			swapped := slices.Clone(sets)
			swapped[i-1], swapped[i] = swapped[i], swapped[i-1]
			list = append(list, swapped, slices.Concat(before[:i-1], [][]impl.Angle{sorted(slices.Concat(sets[i-1], set))}, behind))
		}
	}
	return list
}

// sorted returns a list of angles in ascending order, each once.
func sorted(list []impl.Angle) []impl.Angle {
	list = slices.Clone(list)
	slices.SortFunc(list, orderByHand)
	return slices.Compact(list)
}

func TestChangedPortraits(t *testing.T) {
	failed, codes := map[int64]int{}, map[int64]int{}
	for _, c := range knownPortraits() {
		for _, sets := range changed(c.sets) {
			if slices.ContainsFunc(sets, func(set []impl.Angle) bool { return slices.ContainsFunc(set, isTooFineByHand) }) {
				continue
			}
			failing, code := checkSetsByHand(t, sets)
			failed[failing]++
			codes[code]++
		}
	}
	if failed[0] < 50 || failed[1] < 100 || failed[2] < 1000 || codes[impl.ErrRange] < 30 {
		t.Errorf("the conditions %v fail, the codes are %v", failed, codes)
	}
}

// isTooFineByHand reports whether a Den is greater than MaxDen.
func isTooFineByHand(x impl.Angle) bool {
	return x.Den > 8191
}

// TestAllSmallLists holds the answers to all lists of two sets of angles k/7, of three sets of at most
// two of them, and of one set of angles k/12 or k/15, against those found without the program.
func TestAllSmallLists(t *testing.T) {
	failed := map[int64]int{}
	check := func(sets ...[]impl.Angle) {
		failing, _ := checkSetsByHand(t, sets)
		failed[failing]++
	}
	sevenths := subsets(corners(7))
	for _, a := range sevenths {
		for _, b := range sevenths {
			check(a, b)
			for _, c := range sevenths {
				if len(a) <= 2 && len(b) <= 2 && len(c) <= 2 {
					check(a, b, c)
				}
			}
		}
	}
	for _, a := range slices.Concat(subsets(corners(12)), subsets(corners(15)[3:])) {
		check(a)
	}
	if failed[0] < 10 || failed[1] < 1000 || failed[2] < 1000 || failed[3] < 5 || failed[5] < 5 {
		t.Errorf("the conditions %v fail", failed)
	}
}

// subsets returns all parts of a list, but the empty one.
func subsets(list []impl.Angle) [][]impl.Angle {
	parts := [][]impl.Angle{{}}
	for _, x := range list {
		for _, part := range parts[:len(parts):len(parts)] {
			parts = append(parts, append(slices.Clone(part), x))
		}
	}
	return parts[1:]
}

// notInOrder returns lists of sets of angles that are not in number and order as told, each for a
// reason of its own.
func notInOrder() [][][]impl.Angle {
	return [][][]impl.Angle{
		// No sets, and too many.
		nil, {}, eachAlone(1, 8191), slices.Repeat(setsOver(1, "0"), 13), mirrored(1, 2731, 13), slices.Repeat(setsOver(3, "1", "2"), 32), slices.Repeat(setsOver(7, "1 2 4"), 13), eachAlone(1, 641),
		// Empty ones.
		setsOver(1, ""), {nil}, {{}, {}}, setsOver(7, "1 2 4", ""), setsOver(7, "", "1 2 4"), setsOver(7, "3 4", "", "1 6", "2 5"), slices.Repeat(setsOver(1, ""), 12), slices.Repeat(setsOver(1, ""), 13),
		// Sets that are not ascending, or hold an angle twice.
		setsOver(7, "2 1 4"), setsOver(7, "1 4 2"), setsOver(7, "4 2 1"), setsOver(7, "4 1 2"), setsOver(7, "1 1 2 4"), setsOver(7, "1 2 4 4"), setsOver(7, "1 2 2 4"), setsOver(1, "0 0"), setsOver(7, "4 3", "1 6", "2 5"), setsOver(7, "3 4", "1 6", "5 2"),
		setsOver(3, "1", "2 2"), setsOver(7, "1 2 1 4"), setsOver(8191, "2 1"), {{angle(1, 8190), angle(1, 8191)}}, {{angle(1, 2), angle(0, 1)}},
		// More than MaxOrbit angles together.
		{corners(65)}, {corners(64), corners(1)}, {corners(1), corners(64)}, {corners(32), corners(33)}, slices.Repeat([][]impl.Angle{corners(13)}, 5), slices.Repeat([][]impl.Angle{corners(64)}, 12), slices.Repeat([][]impl.Angle{corners(6)}, 11),
		{corners(8191)}, {over(1282, orbitText(2, 1282)), over(1282, "1")}, {corners(64), {}, corners(1)},
	}
}

func TestListsThatAreNotInOrder(t *testing.T) {
	for _, sets := range notInOrder() {
		checkNoPortrait(t, sets, 0, impl.ErrRange)
	}
	// MaxSets sets, and MaxOrbit angles together, are accepted.
	for _, sets := range [][][]impl.Angle{{corners(64)}, {corners(65)[1:]}, {corners(32), corners(32)}, {corners(63), corners(1)}, slices.Repeat([][]impl.Angle{corners(16)}, 4), slices.Repeat(setsOver(7, "1"), 12), slices.Concat(slices.Repeat([][]impl.Angle{corners(5)}, 8), slices.Repeat([][]impl.Angle{corners(6)}, 4))} {
		failing, code := checkSetsByHand(t, sets)
		if failing == 0 || code != impl.ErrNone {
			t.Errorf("%s is a wrong sample: %d, %d", bySets(sets), failing, code)
		}
	}
}

// ErrInvalid comes ahead of ErrRange, and ahead of the conditions.
func TestSetsWithoutAngles(t *testing.T) {
	for _, bad := range notAngles() {
		only := []impl.Angle{bad}
		for _, sets := range [][][]impl.Angle{
			{only}, {only, only}, {{bad, angle(1, 3)}}, {{angle(1, 3), bad}}, {{angle(1, 7), bad, angle(4, 7)}}, setsWith("1 2 4", only), {over(7, "1 2"), only, over(7, "4")}, {only, over(7, "1 2 4")},
			// Lists are not in order, or too long, and a condition does not hold.
			{{}, only}, {only, {}}, {over(7, "2 1"), only}, {only, over(7, "1 1")}, append(eachAlone(1, 8191), only), slices.Repeat([][]impl.Angle{only}, 13), {corners(65), only}, {append(corners(70), bad)}, setsWith("1", only, over(7, "1")),
		} {
			checkNoPortrait(t, sets, 0, impl.ErrInvalid)
		}
	}
}

// setsWith returns a set of sevenths, and others behind it.
func setsWith(text string, others ...[]impl.Angle) [][]impl.Angle {
	return append(setsOver(7, text), others...)
}

// TestSetsAreLeftUnchanged checks lists of sets, the sets, and the room behind both, also when what
// has been returned is written into.
func TestSetsAreLeftUnchanged(t *testing.T) {
	list := append(notInOrder(), setsWith("1 2 4", []impl.Angle{angle(1, 0)}))
	for _, c := range knownPortraits() {
		list = append(list, c.sets)
	}
	for _, failures := range knownFailures() {
		list = append(list, failures...)
	}
	for _, sets := range list {
		given, wholes := [][]impl.Angle{}, [][]impl.Angle{}
		for _, set := range sets {
			with, whole := roomy(set, angle(5, 7))
			given, wholes = append(given, with), append(wholes, whole)
		}
		given, all := roomy(given, over(7, "3 5 6"))
		before := slices.Clone(wholes)
		for i := range before {
			before[i] = slices.Clone(before[i])
		}
		impl.PortraitThatFails(given)
		impl.IsPortrait(given)
		impl.ValenceOf(given)
		impl.RotationNumber(given)
		arc, _ := impl.CharacteristicArc(given)
		overwrite(arc, angle(3, 7))
		checkGaps(t, "all of "+bySets(sets), wholes, 0, before, 0)
		checkGaps(t, "the list "+bySets(sets), all, 0, slices.Concat(sets, slices.Repeat(setsOver(7, "3 5 6"), 3)), 0)
	}
}

// TestArcsAreNew writes into arcs and into the room behind them, and asks again.
func TestArcsAreNew(t *testing.T) {
	for _, c := range knownPortraits() {
		for range 2 {
			arc, _ := impl.CharacteristicArc(c.sets)
			checkAngles(t, "CharacteristicArc("+bySets(c.sets)+")", arc, 0, c.arc, 0)
			overwrite(arc, angle(5, 7))
		}
	}
}
