package tests

import (
	"fmt"
	"math"
	"slices"
	"testing"

	"loop.example/g01234/impl"
)

// binomials returns the coefficients of (z + shift)^n, from that of 1 on.
func binomials(n int, shift int64) []int64 {
	list := []int64{1}
	for range n {
		longer := make([]int64, len(list)+1)
		for k, c := range list {
			longer[k] += shift * c
			longer[k+1] += c
		}
		list = longer
	}
	return list
}

// circlePolynomial returns z^n - last.
func circlePolynomial(n int, last int64) []int64 {
	list := make([]int64, n+1)
	list[0], list[n] = -last, 1
	return list
}

func TestCharacteristicOf(t *testing.T) {
	alike := []int64{1, 0, 1}
	for _, c := range []struct {
		matrix [][]int64
		want   []int64
	}{
		{nil, []int64{1}}, {[][]int64{}, []int64{1}}, {[][]int64{{0}}, []int64{0, 1}}, {[][]int64{{1}}, []int64{-1, 1}}, {[][]int64{{2}}, []int64{-2, 1}},
		{[][]int64{{0, 1}, {1, 1}}, []int64{-1, -1, 1}}, {[][]int64{{0, 1}, {1, 0}}, []int64{-1, 0, 1}}, {[][]int64{{1, 0}, {0, 1}}, []int64{1, -2, 1}}, {[][]int64{{0, 0}, {0, 0}}, []int64{0, 0, 1}}, {[][]int64{{0, 2}, {0, 0}}, []int64{0, 0, 1}},
		{[][]int64{{0, 2}, {2, 0}}, []int64{-4, 0, 1}}, {[][]int64{{2, 0}, {0, 2}}, []int64{4, -4, 1}}, {[][]int64{{2, 0}, {2, 0}}, []int64{0, -2, 1}}, {[][]int64{{1, 1}, {1, 1}}, []int64{0, -2, 1}}, {[][]int64{{2, 0}, {1, 1}}, []int64{2, -3, 1}},
		// The determinants are 1, -1, 2, -2 and 0.
		{[][]int64{{0, 1, 0}, {0, 0, 1}, {1, 0, 0}}, []int64{-1, 0, 0, 1}}, {[][]int64{{0, 1, 0}, {1, 0, 0}, {0, 0, 1}}, []int64{1, -1, -1, 1}}, {[][]int64{{1, 1, 0}, {0, 1, 1}, {1, 0, 1}}, []int64{-2, 3, -3, 1}},
		{[][]int64{{0, 1, 1}, {1, 1, 0}, {1, 0, 1}}, []int64{2, -1, -2, 1}}, {[][]int64{alike, alike, alike}, []int64{0, 0, -2, 1}},
		// Columns may have a greater sum than 2.
		{[][]int64{{2, 0, 0}, {2, 0, 0}, {2, 0, 0}}, []int64{0, 0, -2, 1}}, {slices.Repeat([][]int64{append([]int64{1, 1}, make([]int64, 19)...)}, 21), append(make([]int64, 20), -2, 1)},
		// 21 rows: the greatest coefficients, and determinants of both signs.
		{squareOf(21, 0), append(make([]int64, 21), 1)}, {squareOf(21, 1), binomials(21, -1)}, {squareOf(21, 2), binomials(21, -2)}, {squareOf(20, 2), binomials(20, -2)}, {circleOf(21, 1), circlePolynomial(21, 1)}, {circleOf(21, 2), circlePolynomial(21, 1<<21)}, {circleOf(20, 2), circlePolynomial(20, 1<<20)},
	} {
		got, code := impl.CharacteristicOf(c.matrix)
		checkNumbers(t, fmt.Sprintf("CharacteristicOf(%v)", c.matrix), got, code, c.want, impl.ErrNone)
	}
}

// TestCharacteristicByHand holds the polynomials of all matrices of up to three rows, and of others,
// against those found without the program. Their determinants are the last coefficients, or less them.
func TestCharacteristicByHand(t *testing.T) {
	signs := map[bool]int{}
	for _, matrix := range append(smallMatrices(3), lotMatrices()...) {
		got, code := impl.CharacteristicOf(matrix)
		checkNumbers(t, fmt.Sprintf("CharacteristicOf(%v)", matrix), got, code, polynomialByHand(matrix), impl.ErrNone)
		if got[0] != 0 {
			signs[(got[0] > 0) == (len(matrix)%2 == 0)]++
		}
	}
	if signs[true] < 150 || signs[false] < 150 {
		t.Errorf("determinants of each sign: %v", signs)
	}
}

// TestPolynomialsByHand holds the polynomials of all angles with short orbits against those found
// without the program.
func TestPolynomialsByHand(t *testing.T) {
	for _, x := range shortOrbits() {
		got, code := impl.PairPolynomial(x)
		checkNumbers(t, fmt.Sprintf("PairPolynomial(%v)", x), got, code, polynomialByHand(pairMatrixByHand(x)), impl.ErrNone)
	}
}

// withCell returns the matrix of n rows of zeros, with an entry in its last row.
func withCell(n int, place int, entry int64) [][]int64 {
	matrix := squareOf(n, 0)
	matrix[n-1][place] = entry
	return matrix
}

// matricesOutOfRange returns matrices that CharacteristicOf does not take, each for a reason of its own.
func matricesOutOfRange() [][][]int64 {
	return [][][]int64{
		// More than 21 rows.
		squareOf(22, 0), squareOf(22, 1), squareOf(23, 0), squareOf(64, 2), circleOf(22, 1),
		// Entries that are less than 0, or greater than 2.
		{{3}}, {{-1}}, {{4}}, {{-2}}, {{math.MaxInt64}}, {{math.MinInt64}}, {{1 << 32}}, {{1<<32 + 1}}, {{0, 0}, {0, 3}}, {{0, -1}, {0, 0}}, {{0, 0}, {-1, 0}}, withCell(21, 0, 3), withCell(21, 20, -1),
		// Sums that are greater than 2, in each row.
		{{1, 2}, {0, 0}}, {{0, 0}, {2, 1}}, {{2, 2}, {0, 0}}, {{1, 1, 1}, {0, 0, 0}, {0, 0, 0}}, {{0, 0, 0}, {1, 1, 1}, {0, 0, 0}}, {{0, 0, 0}, {0, 0, 0}, {1, 0, 2}}, {{2, 2, 2}, {2, 2, 2}, {2, 2, 2}}, slices.Repeat([][]int64{slices.Repeat([]int64{1}, 21)}, 21),
		// Sums of at most 2, though entries are out of their range, and sums beyond the limits of int64.
		{{3, -1}, {0, 0}}, {{-1, 2}, {1, 1}}, {{math.MaxInt64, math.MaxInt64}, {0, 0}}, {{math.MinInt64, math.MinInt64}, {0, 0}}, {{0, 0}, {math.MinInt64, math.MaxInt64}}, {{math.MinInt64, math.MinInt64, 2}, {0, 0, 0}, {0, 0, 0}},
		slices.Repeat([][]int64{{1 << 62, 1 << 62, 1 << 62, 1 << 62}}, 4),
	}
}

// notMatrices returns lists that are not a matrix, each for a reason of its own.
func notMatrices() [][][]int64 {
	return [][][]int64{
		// Lists that are too short, or too long, in each place.
		{nil}, {{}}, {{}, {}}, {{1, 0}}, {{0}, {0}}, {{1, 0}, {1}}, {{1}, {1, 0}}, {{1, 0}, {1, 0, 0}}, {{1, 0, 0}, {1, 0}}, {{1, 0}, {}}, {nil, {1, 0}},
		{{1, 0, 0}, {0, 1, 0}}, {{1, 0}, {0, 1}, {0, 0}}, {{1, 0, 0}, {0, 1, 0}, {0, 0}}, {{1, 0, 0}, {0, 1, 0, 0}, {0, 0, 1}}, {{1}, {1, 0}, {1, 0, 0}},
		// 21 rows and 22 columns, and 22 rows of 21 columns.
		squareOf(22, 1)[1:], append(squareOf(21, 1), make([]int64, 21)), append(squareOf(21, 1), make([]int64, 22)), append(squareOf(22, 1)[1:], make([]int64, 21)),
		// Rows, entries and sums that are out of their ranges, too.
		squareOf(64, 1)[1:], {{3, 0}}, {{-1}, {0}}, {{2, 2}, {1}}, {{2, 2}, {1, 0}, {0, 1}}, {{math.MaxInt64, math.MinInt64}}, {{0}, {3, -1}}, {{3}, {3}}, slices.Repeat([][]int64{{2, 1}}, 22),
	}
}

func TestErrorsOfCharacteristicOf(t *testing.T) {
	for _, matrix := range matricesOutOfRange() {
		got, code := impl.CharacteristicOf(matrix)
		checkNumbers(t, fmt.Sprintf("CharacteristicOf(%v)", matrix), got, code, nil, impl.ErrRange)
	}
	for _, lists := range notMatrices() {
		got, code := impl.CharacteristicOf(lists)
		checkNumbers(t, fmt.Sprintf("CharacteristicOf(%v)", lists), got, code, nil, impl.ErrInvalid)
	}
}

// TestEntriesOfCharacteristicOf tries all matrices of two rows with entries from -1 to 3.
func TestEntriesOfCharacteristicOf(t *testing.T) {
	taken := 0
	for number := range int64(625) {
		a, b, c, d := number%5-1, number/5%5-1, number/25%5-1, number/125-1
		want, wantCode := []int64{a*d - b*c, -a - d, 1}, int64(impl.ErrNone)
		if min(a, b, c, d) < 0 || a+b > 2 || c+d > 2 {
			want, wantCode = nil, impl.ErrRange
		} else {
			taken++
		}
		matrix := [][]int64{{a, b}, {c, d}}
		got, code := impl.CharacteristicOf(matrix)
		checkNumbers(t, fmt.Sprintf("CharacteristicOf(%v)", matrix), got, code, want, wantCode)
	}
	if taken != 36 {
		t.Errorf("%d matrices are taken", taken)
	}
}

// TestMatricesAreLeftUnchanged checks lists of rows, the rows, and the room behind both, also when what
// has been returned is written into. Asked again, the same is returned.
func TestMatricesAreLeftUnchanged(t *testing.T) {
	all := slices.Concat(smallMatrices(2), lotMatrices(), matricesOutOfRange(), notMatrices())
	for _, matrix := range all {
		given, wholes, before := [][]int64{}, [][]int64{}, [][]int64{}
		for _, row := range matrix {
			with, whole := roomy(row, 7)
			given, wholes, before = append(given, with), append(wholes, whole), append(before, slices.Clone(whole))
		}
		given, list := roomy(given, []int64{1, 1})
		want, wantCode := impl.CharacteristicOf(matrix)
		want = slices.Clone(want)
		for range 2 {
			got, code := impl.CharacteristicOf(given)
			checkNumbers(t, fmt.Sprintf("CharacteristicOf(%v)", matrix), got, code, want, wantCode)
			overwrite(got, 9)
		}
		checkLists(t, fmt.Sprintf("all of %v", matrix), wholes, 0, before, 0)
		checkLists(t, fmt.Sprintf("the list %v", matrix), list, 0, slices.Concat(matrix, slices.Repeat([][]int64{{1, 1}}, 3)), 0)
	}
}

// TestCountsOfPathsByHand holds counts and traces of all angles with short orbits against those found
// without the program: for some all lengths, for the others the lengths 0, 1, 20, 21 and 40.
func TestCountsOfPathsByHand(t *testing.T) {
	most := int64(0)
	for n, x := range shortOrbits() {
		counts, traces := countsByHand(x, 40)
		for k := range int64(41) {
			if n%20 > 0 && k%20 > 1 {
				continue
			}
			count, code := impl.PathCount(x, k)
			checkNumber(t, fmt.Sprintf("PathCount(%v, %d)", x, k), count, code, counts[k], impl.ErrNone)
			trace, code := impl.PathTrace(x, k)
			checkNumber(t, fmt.Sprintf("PathTrace(%v, %d)", x, k), trace, code, traces[k], impl.ErrNone)
		}
		most = max(most, counts[40])
	}
	if most < 1<<40 {
		t.Errorf("the greatest count is %d", most)
	}
}

func TestLengths(t *testing.T) {
	for _, x := range []impl.Angle{angle(0, 1), angle(1, 2), angle(1, 3), angle(3, 7), angle(1, 64), angle(1, 127)} {
		for _, k := range notLengths(40) {
			count, code := impl.PathCount(x, k)
			checkNumber(t, fmt.Sprintf("PathCount(%v, %d)", x, k), count, code, 0, impl.ErrRange)
			trace, code := impl.PathTrace(x, k)
			checkNumber(t, fmt.Sprintf("PathTrace(%v, %d)", x, k), trace, code, 0, impl.ErrRange)
			checkNoGrowth(t, x, angle(1, 2), k, impl.ErrRange)
			checkNoGrowth(t, angle(0, 1), x, k, impl.ErrRange)
		}
	}
}

func TestGrowsFaster(t *testing.T) {
	for _, c := range []struct {
		t, u impl.Angle
		k    int64
		want bool
	}{
		{angle(3, 7), angle(1, 3), 10, true}, {angle(1, 3), angle(3, 7), 10, false}, {angle(1, 2), angle(3, 7), 40, true}, {angle(3, 7), angle(1, 2), 40, false},
		// Equal angles, and angles of equal growth.
		{angle(3, 7), angle(3, 7), 10, false}, {angle(1, 3), angle(2, 3), 40, false}, {angle(3, 7), angle(4, 7), 40, false}, {angle(1, 4), angle(3, 4), 0, false}, {angle(0, 1), angle(0, 1), 40, false},
		// For the length 0, all pairs are counted.
		{angle(1, 3), angle(0, 1), 0, true}, {angle(0, 1), angle(1, 3), 0, false}, {angle(1, 7), angle(1, 2), 0, true}, {angle(1, 2), angle(1, 7), 0, false}, {angle(1, 7), angle(3, 7), 0, false}, {angle(3, 7), angle(1, 7), 0, false},
		// The longer paths are, the more there are of an angle that had less.
		{angle(3, 7), angle(1, 7), 1, true}, {angle(1, 2), angle(1, 127), 4, false}, {angle(1, 127), angle(1, 2), 4, true}, {angle(1, 2), angle(1, 127), 5, true}, {angle(1, 127), angle(1, 2), 5, false}, {angle(1, 2), angle(1, 7), 1, false}, {angle(1, 2), angle(1, 7), 2, true},
	} {
		got, code := impl.GrowsFaster(c.t, c.u, c.k)
		checkAnswer(t, fmt.Sprintf("GrowsFaster(%v, %v, %d)", c.t, c.u, c.k), got, code, c.want, impl.ErrNone)
	}
}

// TestGrowthByHand holds comparisons of many angles against those of counts found without the program.
func TestGrowthByHand(t *testing.T) {
	counts := map[impl.Angle][]int64{}
	for n, x := range shortOrbits() {
		if n < 30 || n%25 == 0 {
			counts[x], _ = countsByHand(x, 40)
		}
	}
	answers := map[string]int{}
	for x, own := range counts {
		for y, other := range counts {
			for _, k := range []int64{0, 1, 5, 40} {
				got, code := impl.GrowsFaster(x, y, k)
				checkAnswer(t, fmt.Sprintf("GrowsFaster(%v, %v, %d)", x, y, k), got, code, own[k] > other[k], impl.ErrNone)
				answers[fmt.Sprint(got, own[k] == other[k])]++
			}
		}
	}
	if answers["true false"] < 1000 || answers["false true"] < 500 {
		t.Errorf("so many answers, and so many counts that are equal: %v", answers)
	}
}
