package tests

import (
	"math"
	"slices"
	"strconv"
	"testing"

	"loop.example/g01234/impl"
)

// rayPair writes a pair of a/b and c/d shortly; it is not checked, so that what is no pair can be
// written, too.
func rayPair(a, b, c, d int64) impl.RayPair {
	return impl.RayPair{Lower: angle(a, b), Upper: angle(c, d)}
}

// pairsWithDen returns the pairs of the first and the second of some numbers by den, of the third
// and the fourth, and so on.
func pairsWithDen(den int64, nums ...int64) []impl.RayPair {
	list := []impl.RayPair{}
	for pair := range slices.Chunk(nums, 2) {
		list = append(list, impl.RayPair{Lower: reduced(pair[0], den), Upper: reduced(pair[1], den)})
	}
	return list
}

// knownPairs returns the ray pairs of the periods 2 to 6 by their periods, written out.
func knownPairs() map[int64][]impl.RayPair {
	return map[int64][]impl.RayPair{
		2: pairsWithDen(3, 1, 2),
		3: pairsWithDen(7, 1, 2, 3, 4, 5, 6),
		4: pairsWithDen(15, 1, 2, 3, 4, 6, 9, 7, 8, 11, 12, 13, 14),
		5: pairsWithDen(31, 1, 2, 3, 4, 5, 6, 7, 8, 9, 10, 11, 12, 13, 18, 14, 17, 15, 16, 19, 20, 21, 22, 23, 24, 25, 26, 27, 28, 29, 30),
		6: pairsWithDen(63, 1, 2, 3, 4, 5, 6, 7, 8, 10, 17, 11, 12, 13, 14, 15, 16, 19, 20, 22, 25, 23, 24, 26, 37, 28, 35, 29, 34,
			30, 33, 31, 32, 38, 41, 39, 40, 43, 44, 46, 53, 47, 48, 49, 50, 51, 52, 55, 56, 57, 58, 59, 60, 61, 62),
	}
}

// isInWake reports whether an angle is in the wake of a pair.
func isInWake(x impl.Angle, pair impl.RayPair) bool {
	return isInside(x, impl.Leaf{First: pair.Lower, Second: pair.Upper})
}

// doPairsCross reports whether two pairs cross, found without the program.
func doPairsCross(a, b impl.RayPair) bool {
	return crossByHand(impl.Leaf{First: a.Lower, Second: a.Upper}, impl.Leaf{First: b.Lower, Second: b.Upper})
}

// orderPairs orders pairs by their lower angles.
func orderPairs(a, b impl.RayPair) int {
	return orderByHand(a.Lower, b.Lower)
}

// widthByHand returns the width of a wake as an angle.
func widthByHand(pair impl.RayPair) impl.Angle {
	den := pair.Lower.Den * pair.Upper.Den
	return reduced(pair.Upper.Num*pair.Lower.Den-pair.Lower.Num*pair.Upper.Den, den)
}

// orderWakes orders pairs by the widths of their wakes, the greater ones first.
func orderWakes(a, b impl.RayPair) int {
	return orderByHand(widthByHand(b), widthByHand(a))
}

// pairsByHand returns the ray pairs of each period up to MaxPeriod, in ascending order of their
// lower angles, found without trying which pairs cross: an angle waits for the next one of its
// period that lies in the same wakes of lower periods.
func pairsByHand() [9][]impl.RayPair {
	lists := [9][]impl.RayPair{}
	before := []impl.RayPair{}
	for n := range int64(9) {
		if n < 2 {
			continue
		}
		waiting := map[string]impl.Angle{}
		for _, x := range kneadingAngles(n) {
			place := ""
			for i, pair := range before {
				if isInWake(x, pair) {
					place += strconv.Itoa(i) + " "
				}
			}
			if first, waits := waiting[place]; waits {
				lists[n] = append(lists[n], impl.RayPair{Lower: first, Upper: x})
				delete(waiting, place)
			} else {
				waiting[place] = x
			}
		}
		slices.SortFunc(lists[n], orderPairs)
		before = append(before, lists[n]...)
	}
	return lists
}

// pairsByHandUpTo returns the ray pairs of the periods 2 to n.
func pairsByHandUpTo(n int64) []impl.RayPair {
	lists := pairsByHand()
	return slices.Concat(lists[:n+1]...)
}

// wakesByHand returns those of some pairs whose wakes are around x, those with greater wakes first.
func wakesByHand(x impl.Angle, pairs []impl.RayPair) []impl.RayPair {
	wakes := []impl.RayPair{}
	for _, pair := range pairs {
		if isInWake(x, pair) {
			wakes = append(wakes, pair)
		}
	}
	slices.SortFunc(wakes, orderWakes)
	return wakes
}

// wakesAroundBoth returns those of some pairs whose wakes contain both angles of a pair.
func wakesAroundBoth(own impl.RayPair, pairs []impl.RayPair) []impl.RayPair {
	wakes := []impl.RayPair{}
	for _, pair := range pairs {
		if isInWake(own.Lower, pair) && isInWake(own.Upper, pair) {
			wakes = append(wakes, pair)
		}
	}
	return wakes
}

// areInOneOrbit reports whether one meets the upper angle of a pair if one doubles the lower one,
// which has the period n.
func areInOneOrbit(pair impl.RayPair, n int64) bool {
	x := pair.Lower
	for range n {
		x = reduced(2*x.Num, x.Den)
		if x == pair.Upper {
			return true
		}
	}
	return false
}

// anglesInNoPair returns angles that are in no ray pair, each for a reason of its own: they have
// the period 1, or one greater than MaxPeriod, or a preperiod.
func anglesInNoPair() []impl.Angle {
	list := []impl.Angle{angle(0, 1)}
	for _, den := range []int64{11, 13, 19, 23, 25, 27, 45, 73, 89, 93, 219, 257, 341, 381, 511, 641, 765, 1023, 2047, 4095, 8179, 8191} {
		list = append(list, angle(1, den), angle(den-1, den))
	}
	for _, den := range []int64{2, 4, 6, 8, 10, 12, 14, 28, 30, 34, 56, 62, 126, 254, 256, 510, 768, 4080, 4096, 8160, 8190} {
		list = append(list, angle(1, den), angle(den-1, den))
	}
	return list
}

// notInRange returns numbers that are not in least..MaxPeriod.
func notInRange(least int64) []int64 {
	return []int64{
		least - 1, least - 2, 9, 10, 0, -1, -2, -8, 16, 40, 63, 64, 65, 256, 258, 1 << 32, 1<<32 + 3,
		math.MaxInt64, math.MinInt64, math.MinInt64 + 3,
	}
}

func checkPair(t *testing.T, what string, got impl.RayPair, code int64, want impl.RayPair, wantCode int64) {
	t.Helper()
	if got != want || code != wantCode {
		t.Errorf("%s: got %v, %d; want %v, %d", what, got, code, want, wantCode)
	}
}

func checkPairs(t *testing.T, what string, got []impl.RayPair, code int64, want []impl.RayPair, wantCode int64) {
	t.Helper()
	if !slices.Equal(got, want) || code != wantCode {
		t.Errorf("%s: got %v, %d; want %v, %d", what, got, code, want, wantCode)
	}
}
