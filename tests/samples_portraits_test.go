package tests

import (
	"fmt"
	"math/big"
	"slices"
	"strconv"
	"strings"
	"testing"

	"loop.example/g01234/impl"
)

// over writes angles with one denominator shortly, by the numerators in a text.
func over(den int64, text string) []impl.Angle {
	list := []impl.Angle{}
	for _, word := range strings.Fields(text) {
		num, err := strconv.ParseInt(word, 10, 64)
		if err != nil {
			panic(err)
		}
		list = append(list, reduced(num, den))
	}
	return list
}

// setsOver writes sets of angles with one denominator shortly, each by its numerators in a text.
// They are not checked.
func setsOver(den int64, texts ...string) [][]impl.Angle {
	sets := [][]impl.Angle{}
	for _, text := range texts {
		sets = append(sets, over(den, text))
	}
	return sets
}

// eachAlone returns the orbit of num/den, that comes back after so many doublings as its period
// tells, as sets of one angle.
func eachAlone(num, den int64) [][]impl.Angle {
	sets := [][]impl.Angle{}
	_, period := orbitByNumbers(num, den)
	for range period {
		sets = append(sets, []impl.Angle{reduced(num, den)})
		num = 2 * num % den
	}
	return sets
}

// mirrored returns the sets of x and 1 - x for num/den and so many of its doubles.
func mirrored(num, den int64, count int) [][]impl.Angle {
	sets := [][]impl.Angle{}
	for range count {
		sets = append(sets, []impl.Angle{reduced(min(num, den-num), den), reduced(max(num, den-num), den)})
		num = 2 * num % den
	}
	return sets
}

// bySets writes sets shortly into messages.
func bySets(sets [][]impl.Angle) string {
	if len(sets) > 14 {
		return fmt.Sprintf("%d sets beginning with %v", len(sets), sets[0])
	}
	return fmt.Sprint(sets)
}

// doubleByHand returns the double of an angle.
func doubleByHand(x impl.Angle) impl.Angle {
	return reduced(2*x.Num, x.Den)
}

// doublesByHand returns the doubles of some angles, each where the angle is.
func doublesByHand(list []impl.Angle) []impl.Angle {
	doubles := []impl.Angle{}
	for _, x := range list {
		doubles = append(doubles, doubleByHand(x))
	}
	return doubles
}

// isSetByHand reports whether a list of angles is not empty, and strictly ascending.
func isSetByHand(list []impl.Angle) bool {
	sorted := slices.Clone(list)
	slices.SortFunc(sorted, orderByHand)
	return len(list) > 0 && slices.Equal(slices.Compact(sorted), list)
}

// goForward reports whether one meets b before c if one goes forward from a; they are different.
func goForward(a, b, c impl.Angle) bool {
	ascents := 0
	for _, step := range [][2]impl.Angle{{a, b}, {b, c}, {c, a}} {
		if orderByHand(step[0], step[1]) < 0 {
			ascents++
		}
	}
	return ascents == 2
}

// conditionsByHand returns the numbers of all conditions that do not hold for sets that are in
// number and order as told. The third one looks at all three angles of each set, the fifth one at
// the leaves that join two angles of a set.
func conditionsByHand(sets [][]impl.Angle) []int64 {
	fails := [6]bool{}
	all := slices.Concat(sets...)
	_, firstPeriod := orbitByNumbers(all[0].Num, all[0].Den)
	for i, x := range all {
		fails[1] = fails[1] || slices.Contains(all[:i], x)
		preperiod, period := orbitByNumbers(x.Num, x.Den)
		fails[4] = fails[4] || preperiod != 0 || period != firstPeriod || period > 64
	}
	for i, set := range sets {
		doubles, next := doublesByHand(set), sets[(i+1)%len(sets)]
		for j, x := range doubles {
			fails[2] = fails[2] || !slices.Contains(next, x) || slices.Contains(doubles[:j], x)
			for k := range j {
				for l := range k {
					fails[3] = fails[3] || goForward(set[l], set[k], set[j]) != goForward(doubles[l], doubles[k], x)
				}
			}
		}
		for _, other := range sets[:i] {
			for _, l := range leavesOf(set) {
				fails[5] = fails[5] || crossesAny(l, leavesOf(other))
			}
		}
	}
	list := []int64{}
	for number, fail := range fails {
		if fail {
			list = append(list, int64(number))
		}
	}
	return list
}

// failingByHand returns what PortraitThatFails has to return for sets of angles.
func failingByHand(sets [][]impl.Angle) (int64, int64) {
	if len(sets) < 1 || len(sets) > 12 || len(slices.Concat(sets...)) > 64 {
		return 0, impl.ErrRange
	}
	if slices.ContainsFunc(sets, func(set []impl.Angle) bool { return !isSetByHand(set) }) {
		return 0, impl.ErrRange
	}
	failing := conditionsByHand(sets)
	if len(failing) == 0 {
		return 0, impl.ErrNone
	}
	return failing[0], impl.ErrNone
}

// rotationByHand returns the rotation number of a portrait: so many angles of the first set as are
// less than the one to which its first one comes back, by their number.
func rotationByHand(sets [][]impl.Angle) impl.Angle {
	x := sets[0][0]
	for range sets {
		x = doubleByHand(x)
	}
	less := int64(0)
	for _, y := range sets[0] {
		if orderByHand(y, x) < 0 {
			less++
		}
	}
	return reduced(less, int64(len(sets[0])))
}

// forwardByHand returns the part of a turn from a forward to b, whatever its denominator is.
func forwardByHand(a, b impl.Angle) *big.Rat {
	way := new(big.Rat).Sub(big.NewRat(b.Num, b.Den), big.NewRat(a.Num, a.Den))
	if way.Sign() < 0 {
		way.Add(way, big.NewRat(1, 1))
	}
	return way
}

// shortestArcs returns the ends of all arcs of some sets than which no other one is shorter. From
// each angle one goes forward to all others of its set, so that some ways are longer than an arc.
func shortestArcs(sets [][]impl.Angle) [][]impl.Angle {
	shortest, least := [][]impl.Angle{}, big.NewRat(1, 1)
	for _, set := range sets {
		for _, from := range set {
			for _, to := range set {
				way := forwardByHand(from, to)
				if from == to || way.Cmp(least) > 0 {
					continue
				}
				if way.Cmp(least) < 0 {
					shortest, least = nil, way
				}
				shortest = append(shortest, []impl.Angle{from, to})
			}
		}
	}
	return shortest
}

// joinsByHand returns the leaves that join the angles that arise from a and b by as many doublings.
func joinsByHand(a, b impl.Angle, period int64) []impl.Leaf {
	joins := []impl.Leaf{}
	for range period {
		joins = append(joins, joined(a, b))
		a, b = doubleByHand(a), doubleByHand(b)
	}
	return joins
}

// setsByHand returns the sets of which the portrait of two angles with the preperiod 0 and the same
// period is made, whether or not they are a portrait: those of the angles that one meets from a on.
func setsByHand(a, b impl.Angle) [][]impl.Angle {
	_, period := orbitByNumbers(a.Num, a.Den)
	classes := classesByHand(joinsByHand(a, b, period))
	sets := [][]impl.Angle{}
	for range period {
		i := slices.IndexFunc(classes, func(class []impl.Angle) bool { return slices.Contains(class, a) })
		if slices.ContainsFunc(sets, func(set []impl.Angle) bool { return slices.Equal(set, classes[i]) }) {
			break
		}
		sets = append(sets, classes[i])
		a = doubleByHand(a)
	}
	return sets
}

// portraitByHand returns what PortraitOf has to return for two angles.
func portraitByHand(a, b impl.Angle) ([][]impl.Angle, int64) {
	preperiod, period := orbitByNumbers(a.Num, a.Den)
	otherPreperiod, otherPeriod := orbitByNumbers(b.Num, b.Den)
	if preperiod+period > 64 || otherPreperiod+otherPeriod > 64 {
		return nil, impl.ErrLimit
	}
	if a == b || preperiod+otherPreperiod > 0 || period != otherPeriod {
		return nil, impl.ErrState
	}
	sets := setsByHand(a, b)
	if len(sets) > 12 {
		return nil, impl.ErrLimit
	}
	if failing, code := failingByHand(sets); failing != 0 || code != impl.ErrNone {
		return nil, impl.ErrState
	}
	return sets, impl.ErrNone
}

// turnByHand returns what RotationOfSet has to return for a set of angles, by trying all numbers.
func turnByHand(set []impl.Angle) (int64, int64) {
	if len(set) > 64 || !isSetByHand(set) {
		return 0, impl.ErrRange
	}
	doubles := doublesByHand(set)
	for q := range set {
		if slices.Equal(slices.Concat(set[q:], set[:q]), doubles) {
			return int64(q), impl.ErrNone
		}
	}
	return 0, impl.ErrState
}

// checkSetsByHand holds the answers to some sets against those found without the program, and
// returns the number of the condition that does not hold, and the code.
func checkSetsByHand(t *testing.T, sets [][]impl.Angle) (int64, int64) {
	t.Helper()
	failing, code := failingByHand(sets)
	if failing != 0 || code != impl.ErrNone {
		checkNoPortrait(t, sets, failing, code)
		return failing, code
	}
	valence := int64(len(sets[0]))
	var arc []impl.Angle
	if valence > 1 {
		arcs := shortestArcs(sets)
		if len(arcs) != 1 {
			t.Fatalf("%s has the shortest arcs %v", bySets(sets), arcs)
		}
		arc = arcs[0]
	}
	checkPortrait(t, sets, valence, rotationByHand(sets), arc)
	return failing, code
}

// checkPortrait checks that sets are a portrait, and what it is. There is no arc if the valence is 1.
func checkPortrait(t *testing.T, sets [][]impl.Angle, valence int64, rotation impl.Angle, arc []impl.Angle) {
	t.Helper()
	what := "(" + bySets(sets) + ")"
	failing, code := impl.PortraitThatFails(sets)
	checkNumber(t, "PortraitThatFails"+what, failing, code, 0, impl.ErrNone)
	checkAnswer(t, "IsPortrait"+what, impl.IsPortrait(sets), 0, true, 0)
	number, code := impl.ValenceOf(sets)
	checkNumber(t, "ValenceOf"+what, number, code, valence, impl.ErrNone)
	turned, code := impl.RotationNumber(sets)
	checkAngle(t, "RotationNumber"+what, turned, code, rotation, impl.ErrNone)
	wantCode := int64(impl.ErrNone)
	if valence == 1 {
		wantCode = impl.ErrState
	}
	ends, code := impl.CharacteristicArc(sets)
	checkAngles(t, "CharacteristicArc"+what, ends, code, arc, wantCode)
}

// checkNoPortrait checks what is returned for sets that are no portrait: the number of a condition
// and ErrNone, or 0 and an error.
func checkNoPortrait(t *testing.T, sets [][]impl.Angle, wantFailing, wantCode int64) {
	t.Helper()
	what := "(" + bySets(sets) + ")"
	failing, code := impl.PortraitThatFails(sets)
	checkNumber(t, "PortraitThatFails"+what, failing, code, wantFailing, wantCode)
	if wantCode == impl.ErrNone {
		wantCode = impl.ErrRange
	}
	checkAnswer(t, "IsPortrait"+what, impl.IsPortrait(sets), 0, false, 0)
	number, code := impl.ValenceOf(sets)
	checkNumber(t, "ValenceOf"+what, number, code, 0, wantCode)
	turned, code := impl.RotationNumber(sets)
	checkAngle(t, "RotationNumber"+what, turned, code, impl.Angle{}, wantCode)
	ends, code := impl.CharacteristicArc(sets)
	checkAngles(t, "CharacteristicArc"+what, ends, code, nil, wantCode)
}
