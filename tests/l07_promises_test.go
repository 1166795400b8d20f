package tests

import (
	"fmt"
	"slices"
	"testing"

	"loop.example/g01234/impl"
)

// allRotations gives out all q and v of which there are rotation sets.
func allRotations(yield func(int64, int64) bool) {
	for v := int64(2); v <= 13; v++ {
		for q := int64(1); q < v; q++ {
			if divisorOf(q, v) == 1 && !yield(q, v) {
				return
			}
		}
	}
}

// Promise 7: rotation sets are turned by their number. They are portraits alone, and those of each
// two angles that are behind each other in them.
func TestRotationSetsAreTurnedByTheirNumber(t *testing.T) {
	for q, v := range allRotations {
		what := fmt.Sprintf("RotationSet(%d, %d)", q, v)
		set, code := impl.RotationSet(q, v)
		if code != impl.ErrNone || int64(len(set)) != v {
			t.Fatalf("%s = %v, %d", what, set, code)
		}
		turn, code := impl.RotationOfSet(set)
		checkNumber(t, "RotationOfSet of "+what, turn, code, q, impl.ErrNone)
		for i, x := range set {
			if doubleByHand(x) != set[(int64(i)+q)%v] {
				t.Errorf("%s = %v leads %v to %v", what, set, x, doubleByHand(x))
			}
		}
		alone := [][]impl.Angle{set}
		arcs := shortestArcs(alone)
		checkPortrait(t, alone, v, angle(q, v), arcs[0])
		for i, x := range set {
			y := set[(int64(i)+1)%v]
			got, code := impl.PortraitOf(x, y)
			checkGaps(t, fmt.Sprintf("PortraitOf(%v, %v)", x, y), got, code, alone, impl.ErrNone)
		}
	}
}

// allPortraits returns the portraits of all two angles of the periods 2 to 7, and those that are
// written out, of a valence of at least 2.
func allPortraits() [][][]impl.Angle {
	list := [][][]impl.Angle{}
	for n := int64(2); n <= 7; n++ {
		angles := kneadingAngles(n)
		for i, a := range angles {
			for _, b := range angles[:i] {
				if sets, code := impl.PortraitOf(a, b); code == impl.ErrNone {
					list = append(list, sets)
				}
			}
		}
	}
	for _, c := range knownPortraits() {
		if c.valence > 1 {
			list = append(list, c.sets)
		}
	}
	return list
}

// Promise 7: portraits of the ends of characteristic arcs have the same sets. The ends are in one
// set, with which the portrait begins.
func TestPortraitsOfTheEndsOfCharacteristicArcs(t *testing.T) {
	turned, several := 0, 0
	list := allPortraits()
	for _, sets := range list {
		arc, code := impl.CharacteristicArc(sets)
		if code != impl.ErrNone || len(arc) != 2 {
			t.Fatalf("CharacteristicArc(%s) = %v, %d", bySets(sets), arc, code)
		}
		first := slices.IndexFunc(sets, func(set []impl.Angle) bool { return slices.Contains(set, arc[0]) })
		if first < 0 || !slices.Contains(sets[first], arc[1]) {
			t.Fatalf("CharacteristicArc(%s) = %v is in no set", bySets(sets), arc)
		}
		got, code := impl.PortraitOf(arc[0], arc[1])
		checkGaps(t, fmt.Sprintf("PortraitOf of the ends of the arc of %s", bySets(sets)), got, code, slices.Concat(sets[first:], sets[:first]), impl.ErrNone)
		if orderByHand(arc[0], arc[1]) > 0 {
			t.Errorf("CharacteristicArc(%s) = %v goes across 0", bySets(sets), arc)
		}
		if first > 0 {
			turned++
		}
		if len(sets) > 1 && len(sets[0]) > 2 {
			several++
		}
	}
	if len(list) < 800 || turned < 500 || several < 15 {
		t.Errorf("%d portraits, %d with the arc behind the first set, %d with several sets of more than two angles", len(list), turned, several)
	}
}

// Whichever set comes first, it is a portrait with the same valence, rotation number and arc. Only the
// sets in their order are, and only all of them.
func TestPortraitsBeginWithAnySet(t *testing.T) {
	for _, sets := range allPortraits() {
		rotation, code := impl.RotationNumber(sets)
		arc, arcCode := impl.CharacteristicArc(sets)
		if code != impl.ErrNone || arcCode != impl.ErrNone {
			t.Fatalf("%s: codes %d, %d", bySets(sets), code, arcCode)
		}
		for i := range sets {
			checkPortrait(t, slices.Concat(sets[i:], sets[:i]), int64(len(sets[0])), rotation, arc)
			if len(sets) > 1 {
				checkNoPortrait(t, slices.Concat(sets[i+1:], sets[:i]), 2, impl.ErrNone)
			}
		}
		if backwards := slices.Clone(sets); len(sets) > 2 {
			slices.Reverse(backwards)
			checkNoPortrait(t, backwards, 2, impl.ErrNone)
		}
	}
}

// Rotation numbers tell how often the cycle of a portrait fits into the period of its angles.
func TestRotationNumbersTellPeriods(t *testing.T) {
	kinds := map[bool]int{}
	for _, sets := range allPortraits() {
		rotation, _ := impl.RotationNumber(sets)
		_, period := orbitByNumbers(sets[0][0].Num, sets[0][0].Den)
		if period != rotation.Den*int64(len(sets)) {
			t.Errorf("RotationNumber(%s) = %v, with the period %d", bySets(sets), rotation, period)
		}
		// All angles are in one orbit, or there are two in each set that come back as they are.
		if rotation.Den != int64(len(sets[0])) && (rotation != angle(0, 1) || len(sets[0]) != 2) {
			t.Errorf("RotationNumber(%s) = %v", bySets(sets), rotation)
		}
		kinds[rotation.Num == 0]++
	}
	if kinds[true] < 500 || kinds[false] < 200 {
		t.Errorf("the rotation numbers are %v", kinds)
	}
}

// The ray pairs of chapter 4 are the ends of the characteristic arcs: satellites of portraits with one
// orbit, and the others of portraits with two.
func TestRayPairsAreCharacteristicArcs(t *testing.T) {
	ends := map[impl.RayPair]bool{}
	for _, sets := range allPortraits() {
		arc, _ := impl.CharacteristicArc(sets)
		if own, code := impl.PairOf(arc[0]); code == impl.ErrNone {
			ends[impl.RayPair{Lower: arc[0], Upper: arc[1]}] = true
			checkPair(t, fmt.Sprintf("PairOf(%v)", arc[0]), own, code, impl.RayPair{Lower: arc[0], Upper: arc[1]}, impl.ErrNone)
		}
	}
	for _, pair := range allPairs(t) {
		sets, code := impl.PortraitOf(pair.Lower, pair.Upper)
		if code != impl.ErrNone {
			t.Fatalf("PortraitOf(%v, %v): code %d", pair.Lower, pair.Upper, code)
		}
		arc, code := impl.CharacteristicArc(sets)
		checkAngles(t, fmt.Sprintf("CharacteristicArc(%s)", bySets(sets)), arc, code, []impl.Angle{pair.Lower, pair.Upper}, impl.ErrNone)
		rotation, _ := impl.RotationNumber(sets)
		satellite, _ := impl.IsSatellite(pair.Lower)
		if satellite != (rotation.Num != 0) {
			t.Errorf("RotationNumber(%s) = %v, and the pair is a satellite: %v", bySets(sets), rotation, satellite)
		}
		if _, period := orbitByNumbers(pair.Lower.Num, pair.Lower.Den); period <= 7 && !ends[pair] {
			t.Errorf("%v is no arc of any two angles of its period", pair)
		}
	}
}
