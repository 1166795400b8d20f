package tests

import (
	"fmt"
	"math"
	"slices"
	"testing"

	"loop.example/g01234/impl"
)

func TestConstantsOfChapter8(t *testing.T) {
	if impl.MaxPoints != 7 {
		t.Errorf("the limit is %d", impl.MaxPoints)
	}
}

// knownOrbit is an angle with its pairs, written out: counts and traces are those of the lengths from
// 0 on.
type knownOrbit struct {
	t          impl.Angle
	pairs      [][]int64
	separated  [][]int64
	matrix     [][]int64
	polynomial []int64
	counts     []int64
	traces     []int64
}

// knownOrbits returns angles with orbits of one, two, three and four angles, with a preperiod and
// without.
func knownOrbits() []knownOrbit {
	three := [][]int64{{1, 2}, {1, 3}, {2, 3}}
	four := [][]int64{{1, 2}, {1, 3}, {1, 4}, {2, 3}, {2, 4}, {3, 4}}
	return []knownOrbit{
		{angle(0, 1), nil, nil, nil, []int64{1}, []int64{0, 0, 0}, []int64{0, 0, 0}},
		// The letter of the second angle is `*`.
		{angle(1, 3), [][]int64{{1, 2}}, nil, [][]int64{{1}}, []int64{-1, 1}, []int64{1, 1, 1}, []int64{1, 1, 1}},
		{angle(2, 3), [][]int64{{1, 2}}, nil, [][]int64{{1}}, []int64{-1, 1}, []int64{1, 1, 1}, []int64{1, 1, 1}},
		// Both images are 0, so that the pair leads to itself twice.
		{angle(1, 2), [][]int64{{1, 2}}, [][]int64{{1, 2}}, [][]int64{{2}}, []int64{-2, 1}, []int64{1, 2, 4, 8, 16}, []int64{1, 2, 4, 8, 16}},
		// No pair is separated.
		{angle(1, 7), three, nil, [][]int64{{0, 0, 1}, {1, 0, 0}, {0, 1, 0}}, []int64{-1, 0, 0, 1}, []int64{3, 3, 3, 3}, []int64{3, 0, 0, 3, 0, 0, 3}},
		// The letters are 1, 0 and `*`.
		{angle(3, 7), three, [][]int64{{1, 2}}, [][]int64{{1, 1, 0}, {1, 0, 0}, {0, 1, 0}}, []int64{0, -1, -1, 1}, []int64{3, 4, 6, 10, 16}, []int64{3, 1, 3, 4, 7}},
		// Two pairs are separated, one of which leads to another one twice.
		{angle(1, 4), three, [][]int64{{1, 3}, {2, 3}}, [][]int64{{0, 0, 1}, {1, 1, 0}, {0, 2, 0}}, []int64{-2, 0, -1, 1}, []int64{3, 5, 9, 15}, []int64{3, 1, 1, 7}},
		{angle(3, 4), three, [][]int64{{1, 3}, {2, 3}}, [][]int64{{0, 0, 1}, {1, 1, 0}, {0, 2, 0}}, []int64{-2, 0, -1, 1}, []int64{3, 5, 9, 15}, []int64{3, 1, 1, 7}},
		{angle(1, 6), three, [][]int64{{1, 3}, {2, 3}}, [][]int64{{0, 0, 1}, {2, 0, 0}, {1, 1, 0}}, []int64{-2, -1, 0, 1}, []int64{3, 5, 7, 11}, []int64{3, 0, 2, 6}},
		// The letters are 1, 0, 1 and `*`: pairs are separated with the 1 first, and with the 0 first.
		{
			angle(2, 5), four, [][]int64{{1, 2}, {2, 3}},
			[][]int64{{1, 1, 0, 0, 0, 0}, {0, 0, 0, 0, 1, 0}, {1, 0, 0, 0, 0, 0}, {0, 1, 1, 0, 0, 0}, {0, 1, 0, 0, 0, 0}, {0, 0, 1, 0, 0, 0}},
			[]int64{0, 0, 0, 1, -1, -1, 1}, []int64{6, 8, 10, 14}, []int64{6, 1, 3, 1, 3},
		},
		// The letters are 1, 1, 1 and 0, and the last two angles lead to each other.
		{
			angle(1, 12), four, [][]int64{{1, 4}, {2, 4}, {3, 4}},
			[][]int64{{0, 0, 0, 1, 0, 0}, {0, 0, 0, 0, 1, 0}, {1, 1, 0, 0, 0, 0}, {0, 0, 0, 0, 0, 1}, {0, 2, 0, 0, 0, 0}, {0, 1, 1, 0, 0, 0}},
			[]int64{2, 0, -1, 0, -2, 0, 1}, []int64{6, 9, 12, 18}, []int64{6, 0, 4, 0, 12},
		},
	}
}

func TestKnownOrbits(t *testing.T) {
	for _, c := range knownOrbits() {
		pairs, code := impl.PairsOfOrbit(c.t)
		checkLists(t, fmt.Sprintf("PairsOfOrbit(%v)", c.t), pairs, code, c.pairs, impl.ErrNone)
		separated, code := impl.SeparatedPairs(c.t)
		checkLists(t, fmt.Sprintf("SeparatedPairs(%v)", c.t), separated, code, c.separated, impl.ErrNone)
		matrix, code := impl.PairMatrix(c.t)
		checkLists(t, fmt.Sprintf("PairMatrix(%v)", c.t), matrix, code, c.matrix, impl.ErrNone)
		polynomial, code := impl.PairPolynomial(c.t)
		checkNumbers(t, fmt.Sprintf("PairPolynomial(%v)", c.t), polynomial, code, c.polynomial, impl.ErrNone)
		polynomial, code = impl.CharacteristicOf(c.matrix)
		checkNumbers(t, fmt.Sprintf("CharacteristicOf(%v)", c.matrix), polynomial, code, c.polynomial, impl.ErrNone)
		for k, want := range c.counts {
			count, code := impl.PathCount(c.t, int64(k))
			checkNumber(t, fmt.Sprintf("PathCount(%v, %d)", c.t, k), count, code, want, impl.ErrNone)
		}
		for k, want := range c.traces {
			trace, code := impl.PathTrace(c.t, int64(k))
			checkNumber(t, fmt.Sprintf("PathTrace(%v, %d)", c.t, k), trace, code, want, impl.ErrNone)
		}
	}
}

// TestPairsByHand holds the pairs of all angles with short orbits, and their matrices, against those
// found without the program.
func TestPairsByHand(t *testing.T) {
	sizes, twice, orders := map[int64]int{}, 0, map[string]int{}
	for _, x := range shortOrbits() {
		m := orbitSize(x)
		sizes[m]++
		all := pairsUpToPoints(m)
		pairs, code := impl.PairsOfOrbit(x)
		checkLists(t, fmt.Sprintf("PairsOfOrbit(%v)", x), pairs, code, all, impl.ErrNone)
		want := [][]int64{}
		letters, _ := pointLetters(x)
		for k, is := range separatedByHand(x) {
			if is {
				want = append(want, all[k])
				orders[letters[all[k][0]-1:all[k][0]]]++
			}
		}
		separated, code := impl.SeparatedPairs(x)
		checkLists(t, fmt.Sprintf("SeparatedPairs(%v)", x), separated, code, want, impl.ErrNone)
		matrix, code := impl.PairMatrix(x)
		checkLists(t, fmt.Sprintf("PairMatrix(%v)", x), matrix, code, pairMatrixByHand(x), impl.ErrNone)
		if slices.ContainsFunc(matrix, func(row []int64) bool { return slices.Contains(row, 2) }) {
			twice++
		}
	}
	if fmt.Sprint(sizes) != "map[1:1 2:3 3:10 4:26 5:70 6:164 7:400]" {
		t.Errorf("so many orbits of each size: %v", sizes)
	}
	if twice < 300 || orders["0"] < 100 || orders["1"] < 100 {
		t.Errorf("%d matrices with a 2, and so many pairs separated with each letter first: %v", twice, orders)
	}
}

// Some cases are never met, though the document allows for them: the images of a pair are equal only if
// it is separated, and no image of a separated one is the angle itself, as its half has the letter `*`.
func TestCasesThatAreNeverMet(t *testing.T) {
	for _, x := range shortOrbits() {
		orbit, _ := impl.OrbitOf(x)
		pairs, _ := impl.PairsOfOrbit(x)
		separated, _ := impl.SeparatedPairs(x)
		for _, pair := range pairs {
			is := slices.ContainsFunc(separated, func(other []int64) bool { return slices.Equal(other, pair) })
			a, b := doubleByHand(orbit[pair[0]-1]), doubleByHand(orbit[pair[1]-1])
			if a == b && !is || is && (a == x || b == x) {
				t.Errorf("the pair %v of %v has the images %v and %v", pair, x, a, b)
			}
		}
	}
}

// TestPairOrbit writes some orbits of pairs out.
func TestPairOrbit(t *testing.T) {
	for _, c := range []struct {
		t    impl.Angle
		i, j int64
		want [][]int64
	}{
		{angle(1, 3), 1, 2, [][]int64{{1}}}, {angle(1, 3), 1, 2, [][]int64{{1}, {1}, {1}}}, {angle(1, 2), 1, 2, [][]int64{{1}, {2}, {4}, {8}, {16}}},
		{angle(1, 7), 1, 2, [][]int64{{1, 0, 0}, {0, 0, 1}, {0, 1, 0}, {1, 0, 0}}}, {angle(1, 7), 2, 3, [][]int64{{0, 0, 1}, {0, 1, 0}}},
		{angle(3, 7), 1, 2, [][]int64{{1, 0, 0}, {1, 1, 0}, {2, 1, 0}, {3, 2, 0}, {5, 3, 0}}}, {angle(3, 7), 1, 3, [][]int64{{0, 1, 0}, {1, 0, 0}, {1, 1, 0}}}, {angle(3, 7), 2, 3, [][]int64{{0, 0, 1}, {0, 1, 0}, {1, 0, 0}}},
		{angle(1, 4), 1, 2, [][]int64{{1, 0, 0}, {0, 0, 1}, {0, 2, 0}, {2, 2, 0}}}, {angle(1, 4), 2, 3, [][]int64{{0, 0, 1}, {0, 2, 0}, {2, 2, 0}, {2, 2, 2}}},
		{angle(1, 6), 1, 3, [][]int64{{0, 1, 0}, {2, 0, 0}, {0, 0, 2}, {2, 2, 0}}}, {angle(2, 5), 2, 3, [][]int64{{0, 0, 0, 1, 0, 0}, {0, 1, 1, 0, 0, 0}, {1, 0, 0, 0, 1, 0}}},
	} {
		k := int64(len(c.want)) - 1
		got, code := impl.PairOrbit(c.t, c.i, c.j, k)
		checkLists(t, fmt.Sprintf("PairOrbit(%v, %d, %d, %d)", c.t, c.i, c.j, k), got, code, c.want, impl.ErrNone)
	}
}

// TestPairOrbitsByHand holds the orbits of all pairs of all angles with short orbits against those
// found without the program: for some the lengths 0 to 20, for the others the length 20.
func TestPairOrbitsByHand(t *testing.T) {
	for n, x := range shortOrbits() {
		led := ledByHand(x)
		for start, pair := range pairsUpToPoints(orbitSize(x)) {
			want := metByHand(led, start, 20)
			for k := range int64(21) {
				if k == 20 || n%20 == 0 {
					got, code := impl.PairOrbit(x, pair[0], pair[1], k)
					checkLists(t, fmt.Sprintf("PairOrbit(%v, %d, %d, %d)", x, pair[0], pair[1], k), got, code, want[:k+1], impl.ErrNone)
				}
			}
		}
	}
}

// checkNoPairOrbit checks that PairOrbit returns a code.
func checkNoPairOrbit(t *testing.T, x impl.Angle, i, j, k int64, want int64) {
	t.Helper()
	got, code := impl.PairOrbit(x, i, j, k)
	checkLists(t, fmt.Sprintf("PairOrbit(%v, %d, %d, %d)", x, i, j, k), got, code, nil, want)
}

func TestNumbersOfPairOrbit(t *testing.T) {
	for _, x := range []impl.Angle{angle(0, 1), angle(1, 2), angle(1, 3), angle(1, 4), angle(3, 7), angle(2, 5), angle(1, 64), angle(1, 127)} {
		m := orbitSize(x)
		for i := int64(-1); i <= m+2; i++ {
			for j := int64(-1); j <= m+2; j++ {
				if i < 1 || i >= j || j > m {
					checkNoPairOrbit(t, x, i, j, 0, impl.ErrRange)
					checkNoPairOrbit(t, x, i, j, 20, impl.ErrRange)
					checkNoPairOrbit(t, x, i, j, -1, impl.ErrRange)
				}
			}
		}
		for _, far := range []int64{math.MaxInt64, math.MinInt64, 1<<32 + 1, 1<<32 + 2, -1 << 32} {
			checkNoPairOrbit(t, x, 1, far, 1, impl.ErrRange)
			checkNoPairOrbit(t, x, far, 2, 1, impl.ErrRange)
			checkNoPairOrbit(t, x, far, far, 1, impl.ErrRange)
		}
		for _, k := range notLengths(20) {
			checkNoPairOrbit(t, x, 1, 2, k, impl.ErrRange)
			checkNoPairOrbit(t, x, m-1, m, k, impl.ErrRange)
		}
	}
}

// checkNoPairs checks that all functions return a code for an angle, for numbers that are in their
// ranges and for others.
func checkNoPairs(t *testing.T, x impl.Angle, want int64) {
	t.Helper()
	pairs, code := impl.PairsOfOrbit(x)
	checkLists(t, fmt.Sprintf("PairsOfOrbit(%v)", x), pairs, code, nil, want)
	separated, code := impl.SeparatedPairs(x)
	checkLists(t, fmt.Sprintf("SeparatedPairs(%v)", x), separated, code, nil, want)
	matrix, code := impl.PairMatrix(x)
	checkLists(t, fmt.Sprintf("PairMatrix(%v)", x), matrix, code, nil, want)
	polynomial, code := impl.PairPolynomial(x)
	checkNumbers(t, fmt.Sprintf("PairPolynomial(%v)", x), polynomial, code, nil, want)
	for _, k := range []int64{0, 1, 20, 21, 40, 41, -1, math.MinInt64, math.MaxInt64} {
		count, code := impl.PathCount(x, k)
		checkNumber(t, fmt.Sprintf("PathCount(%v, %d)", x, k), count, code, 0, want)
		trace, code := impl.PathTrace(x, k)
		checkNumber(t, fmt.Sprintf("PathTrace(%v, %d)", x, k), trace, code, 0, want)
		for _, i := range []int64{1, 0, 8, -1} {
			checkNoPairOrbit(t, x, i, 2, k, want)
			checkNoPairOrbit(t, x, 1, i, k, want)
		}
		for _, other := range []impl.Angle{x, angle(0, 1), angle(3, 7)} {
			checkNoGrowth(t, x, other, k, want)
			checkNoGrowth(t, other, x, k, want)
		}
	}
}

// checkNoGrowth checks that GrowsFaster returns a code.
func checkNoGrowth(t *testing.T, x, y impl.Angle, k int64, want int64) {
	t.Helper()
	faster, code := impl.GrowsFaster(x, y, k)
	checkAnswer(t, fmt.Sprintf("GrowsFaster(%v, %v, %d)", x, y, k), faster, code, false, want)
}

func TestErrorsOfChapter8(t *testing.T) {
	long := longOrbits()
	if orbitSize(long[0]) != 8 || !slices.ContainsFunc(long, func(x impl.Angle) bool { return orbitSize(x) > 64 }) {
		t.Errorf("wrong samples %v", long)
	}
	for _, x := range long {
		checkNoPairs(t, x, impl.ErrRange)
	}
	for _, bad := range notAngles() {
		checkNoPairs(t, bad, impl.ErrInvalid)
		// What is no angle comes ahead of an orbit that is too long, on either side, and of the length.
		for _, x := range long {
			for _, k := range []int64{0, 40, 41, -1} {
				checkNoGrowth(t, bad, x, k, impl.ErrInvalid)
				checkNoGrowth(t, x, bad, k, impl.ErrInvalid)
			}
		}
	}
}

// TestWhichOrbitsAreShort asks for the pairs of all sample angles: those of long orbits are refused.
func TestWhichOrbitsAreShort(t *testing.T) {
	short := 0
	for _, x := range append(sampleAngles(), anglesUpTo(130)...) {
		if orbitSize(x) <= 7 {
			short++
			continue
		}
		pairs, code := impl.PairsOfOrbit(x)
		checkLists(t, fmt.Sprintf("PairsOfOrbit(%v)", x), pairs, code, nil, impl.ErrRange)
	}
	if short < 674 {
		t.Errorf("only %d short orbits", short)
	}
}

// TestResultsOfChapter8AreNew writes into results and into the room behind them, and asks again.
func TestResultsOfChapter8AreNew(t *testing.T) {
	for _, c := range append(knownOrbits(), knownOrbit{t: angle(1, 127)}, knownOrbit{t: angle(1, 64)}, knownOrbit{t: angle(53, 127)}) {
		asks := map[string]func() ([][]int64, int64){
			"PairsOfOrbit":   func() ([][]int64, int64) { return impl.PairsOfOrbit(c.t) },
			"SeparatedPairs": func() ([][]int64, int64) { return impl.SeparatedPairs(c.t) },
			"PairMatrix":     func() ([][]int64, int64) { return impl.PairMatrix(c.t) },
			"PairOrbit":      func() ([][]int64, int64) { return impl.PairOrbit(c.t, 1, 2, 20) },
			"PairPolynomial": func() ([][]int64, int64) {
				polynomial, code := impl.PairPolynomial(c.t)
				return [][]int64{polynomial}, code
			},
		}
		for name, ask := range asks {
			what := fmt.Sprintf("%s(%v)", name, c.t)
			got, code := ask()
			want := [][]int64{}
			for _, row := range got {
				want = append(want, slices.Clone(row))
			}
			checkRowsAreApart(t, what, got, want)
			again, codeAgain := ask()
			checkLists(t, what+" again", again, codeAgain, want, code)
		}
	}
}
