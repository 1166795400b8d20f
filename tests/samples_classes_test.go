package tests

import (
	"slices"
	"strconv"
	"strings"
	"testing"

	"loop.example/g01234/impl"
)

// lists writes lists of numbers shortly: "0 1 / 2" has two of them.
func lists(text string) [][]int64 {
	all := [][]int64{}
	for part := range strings.SplitSeq(text, " / ") {
		list := []int64{}
		for _, word := range strings.Fields(part) {
			number, err := strconv.ParseInt(word, 10, 64)
			if err != nil {
				panic(err)
			}
			list = append(list, number)
		}
		all = append(all, list)
	}
	return all
}

// leastByHand returns for each number k in 0..n - 1 the least one with the same itinerary for t: that of
// k / n, or of -k / n if sign is -1. Numbers stay together until their letters, or those of their doubles,
// tell them apart.
func leastByHand(t impl.Angle, n, sign int64) []int64 {
	names := make([]string, n)
	for k := range n {
		names[k] = kneadingLetterByNumbers(angle((n+sign*k)%n, n), t)
	}
	least := make([]int64, n)
	for before, count := 0, 1; before < count; {
		first := map[string]int64{}
		for k, name := range names {
			if _, met := first[name]; !met {
				first[name] = int64(k)
			}
			least[k] = first[name]
		}
		before, count = count, len(first)
		for k := range n {
			names[k] = strconv.FormatInt(least[k], 10) + " " + strconv.FormatInt(least[2*k%n], 10)
		}
	}
	return least
}

// joinedByHand returns for each number k in 0..n - 1 the least one in its joined class for t and u: there
// is a way to it, by steps between numbers that are alike for t or for u.
func joinedByHand(t, u impl.Angle, n int64) []int64 {
	ofT, ofU := leastByHand(t, n, 1), leastByHand(u, n, -1)
	reaches := make([][]bool, n)
	for k := range n {
		reaches[k] = make([]bool, n)
		for l := range n {
			reaches[k][l] = ofT[k] == ofT[l] || ofU[k] == ofU[l]
		}
	}
	for by := range n {
		for k := range n {
			for l := range n {
				reaches[k][l] = reaches[k][l] || reaches[k][by] && reaches[by][l]
			}
		}
	}
	least := make([]int64, n)
	for k := range n {
		least[k] = int64(slices.Index(reaches[k], true))
	}
	return least
}

// listsByLeast returns the classes in which the numbers have some least ones.
func listsByLeast(least []int64) [][]int64 {
	all := [][]int64{}
	for first := range least {
		class := []int64{}
		for k, l := range least {
			if l == int64(first) {
				class = append(class, int64(k))
			}
		}
		if len(class) > 0 {
			all = append(all, class)
		}
	}
	return all
}

// greatestSize returns how many numbers the largest one of some classes has.
func greatestSize(classes [][]int64) int64 {
	most := 0
	for _, class := range classes {
		most = max(most, len(class))
	}
	return int64(most)
}

// classWith returns the number of the class with a number.
func classWith(k int64, classes [][]int64) int64 {
	return int64(slices.IndexFunc(classes, func(class []int64) bool { return slices.Contains(class, k) }))
}

// classImagesByHand returns for each class of numbers in 0..n - 1 the number of its image. It is told by the
// greatest number of the class.
func classImagesByHand(classes [][]int64, n int64) []int64 {
	images := []int64{}
	for _, class := range classes {
		images = append(images, classWith(2*class[len(class)-1]%n, classes))
	}
	return images
}

// cyclesByHand returns the cycles that images make. What is led on as often as there are classes is in a
// cycle, and all that are in one are met in that way.
func cyclesByHand(images []int64) [][]int64 {
	least := map[int64]bool{}
	walk := func(c int64) []int64 {
		cycle := []int64{c}
		for next := images[c]; next != c; next = images[next] {
			cycle = append(cycle, next)
		}
		return cycle
	}
	for c := range images {
		at := int64(c)
		for range images {
			at = images[at]
		}
		least[slices.Min(walk(at))] = true
	}
	cycles := [][]int64{}
	for c := range images {
		if least[int64(c)] {
			cycles = append(cycles, walk(int64(c)))
		}
	}
	return cycles
}

// limbByHand returns the limb of an angle, or ErrNotFound: of some pairs, the one with the greatest wake
// in which it is, or of which it is an end.
func limbByHand(x impl.Angle, pairs []impl.RayPair) (impl.RayPair, int64) {
	around := []impl.RayPair{}
	for _, pair := range pairs {
		if isInWake(x, pair) || pair.Lower == x || pair.Upper == x {
			around = append(around, pair)
		}
	}
	if len(around) == 0 {
		return impl.RayPair{}, impl.ErrNotFound
	}
	return slices.MinFunc(around, orderWakes), impl.ErrNone
}

// oppositeByHand returns the angle that makes a whole turn, or none, together with u.
func oppositeByHand(u impl.Angle) impl.Angle {
	return angle((u.Den-u.Num)%u.Den, u.Den)
}

// notParts returns numbers that are not in 1..MaxParts.
func notParts() []int64 {
	return append(notLengths(63), 0)
}

func checkLimb(t *testing.T, x impl.Angle, want impl.RayPair, wantCode int64) {
	t.Helper()
	got, code := impl.LimbOf(x)
	checkPair(t, "LimbOf("+strconv.FormatInt(x.Num, 10)+"/"+strconv.FormatInt(x.Den, 10)+")", got, code, want, wantCode)
}
