package tests

import (
	"fmt"
	"slices"
	"testing"

	"loop.example/g01234/impl"
)

// checkZero checks that a matrix is a zero of the characteristic polynomial that is returned for it,
// whose highest coefficient is 1.
func checkZero(t *testing.T, matrix [][]int64, polynomial []int64, code int64) {
	t.Helper()
	if code != impl.ErrNone || len(polynomial) != len(matrix)+1 || polynomial[len(matrix)] != 1 {
		t.Fatalf("the polynomial of %v is %v, %d", matrix, polynomial, code)
	}
	if value := valueAt(polynomial, matrix); !slices.EqualFunc(value, squareOf(len(matrix), 0), slices.Equal[[]int64]) {
		t.Errorf("%v has the polynomial %v, which makes %v of it", matrix, polynomial, value)
	}
}

// Promise 8: rows of pair matrices have sums of at most 2. They are 2 for the pairs that are separated,
// and 1 for the others.
func TestRowsOfPairMatricesHaveSumsOfAtMost2(t *testing.T) {
	sums := map[int64]int{}
	for _, x := range shortOrbits() {
		pairs, code := impl.PairsOfOrbit(x)
		separated, separatedCode := impl.SeparatedPairs(x)
		matrix, matrixCode := impl.PairMatrix(x)
		if code != impl.ErrNone || separatedCode != impl.ErrNone || matrixCode != impl.ErrNone || len(matrix) != len(pairs) {
			t.Fatalf("%v has %d pairs and the matrix %v, codes %d, %d, %d", x, len(pairs), matrix, code, separatedCode, matrixCode)
		}
		for k, row := range matrix {
			want := int64(1)
			if slices.ContainsFunc(separated, func(pair []int64) bool { return slices.Equal(pair, pairs[k]) }) {
				want = 2
			}
			if sum := sumByHand(row); len(row) != len(pairs) || slices.Min(row) < 0 || sum > 2 || sum != want {
				t.Errorf("PairMatrix(%v) has the row %v for %v, want the sum %d", x, row, pairs[k], want)
			}
			sums[sumByHand(row)]++
		}
	}
	if sums[1] < 3000 || sums[2] < 3000 {
		t.Errorf("so many rows of each sum: %v", sums)
	}
}

// Promise 8: matrices are zeros of their characteristic polynomials. These are all matrices of up to
// three rows, others, and all pair matrices.
func TestMatricesAreZerosOfTheirPolynomials(t *testing.T) {
	small := smallMatrices(3)
	if len(small) != 1+3+36+1000 {
		t.Errorf("there are %d small matrices", len(small))
	}
	for _, matrix := range slices.Concat(small, lotMatrices(), [][][]int64{squareOf(21, 2), circleOf(21, 2), circleOf(20, 2)}) {
		polynomial, code := impl.CharacteristicOf(matrix)
		checkZero(t, matrix, polynomial, code)
	}
	for _, x := range shortOrbits() {
		matrix, _ := impl.PairMatrix(x)
		polynomial, code := impl.PairPolynomial(x)
		checkZero(t, matrix, polynomial, code)
		same, sameCode := impl.CharacteristicOf(matrix)
		checkNumbers(t, fmt.Sprintf("CharacteristicOf(PairMatrix(%v))", x), same, sameCode, polynomial, code)
	}
}

// The guarantee of chapter 8: counts of paths at most double with each length. They never become less,
// since each pair leads to one at least.
func TestCountsOfPathsAtMostDouble(t *testing.T) {
	doubled, kept := 0, 0
	for n, x := range shortOrbits() {
		if n > 40 && n%10 > 0 {
			continue
		}
		last, code := impl.PathCount(x, 0)
		checkNumber(t, fmt.Sprintf("PathCount(%v, 0)", x), last, code, int64(len(pairsUpToPoints(orbitSize(x)))), impl.ErrNone)
		for k := int64(1); k <= 40; k++ {
			count, code := impl.PathCount(x, k)
			if code != impl.ErrNone || count > 2*last || count < last {
				t.Errorf("PathCount(%v, %d) = %d, %d behind %d", x, k, count, code, last)
			}
			switch count {
			case 2 * last:
				doubled++
			case last:
				kept++
			}
			last = count
		}
	}
	if doubled < 40 || kept < 40 {
		t.Errorf("counts have doubled %d times, and stayed %d times", doubled, kept)
	}
}

// What is met from all pairs adds up to the counts of paths, and what comes back to the traces.
func TestOrbitsOfPairsAddUpToPaths(t *testing.T) {
	for _, x := range shortOrbits() {
		pairs, _ := impl.PairsOfOrbit(x)
		var counts, traces [21]int64
		for start, pair := range pairs {
			orbit, code := impl.PairOrbit(x, pair[0], pair[1], 20)
			if code != impl.ErrNone || len(orbit) != 21 {
				t.Fatalf("PairOrbit(%v, %v, 20): %d lists, %d", x, pair, len(orbit), code)
			}
			for k, met := range orbit {
				counts[k] += sumByHand(met)
				traces[k] += met[start]
			}
		}
		for _, k := range []int64{0, 1, 7, 20} {
			count, code := impl.PathCount(x, k)
			checkNumber(t, fmt.Sprintf("PathCount(%v, %d)", x, k), count, code, counts[k], impl.ErrNone)
			trace, code := impl.PathTrace(x, k)
			checkNumber(t, fmt.Sprintf("PathTrace(%v, %d)", x, k), trace, code, traces[k], impl.ErrNone)
		}
	}
}

// checkSameMatrix checks that two angles have the same pairs, separated ones, matrix and polynomial, and
// that none of them grows faster.
func checkSameMatrix(t *testing.T, x, y impl.Angle) {
	t.Helper()
	for name, ask := range map[string]func(impl.Angle) ([][]int64, int64){"PairsOfOrbit": impl.PairsOfOrbit, "SeparatedPairs": impl.SeparatedPairs, "PairMatrix": impl.PairMatrix} {
		want, wantCode := ask(x)
		got, code := ask(y)
		checkLists(t, fmt.Sprintf("%s(%v), as of %v", name, y, x), got, code, want, wantCode)
	}
	want, wantCode := impl.PairPolynomial(x)
	got, code := impl.PairPolynomial(y)
	checkNumbers(t, fmt.Sprintf("PairPolynomial(%v), as of %v", y, x), got, code, want, wantCode)
	for _, ends := range [][2]impl.Angle{{x, y}, {y, x}} {
		faster, code := impl.GrowsFaster(ends[0], ends[1], 20)
		checkAnswer(t, fmt.Sprintf("GrowsFaster(%v, %v, 20)", ends[0], ends[1]), faster, code, false, impl.ErrNone)
	}
}

// Both angles of a ray pair have the same kneading sequence (promise 13), and so the same matrix. So have
// an angle and its mirror image.
func TestMatricesOfRelatedAngles(t *testing.T) {
	compared := 0
	for _, pair := range allPairs(t) {
		if orbitSize(pair.Lower) <= 7 {
			checkSameMatrix(t, pair.Lower, pair.Upper)
			compared++
		}
	}
	if compared != 115 {
		t.Errorf("%d ray pairs are compared", compared)
	}
	for _, x := range shortOrbits() {
		checkSameMatrix(t, x, reduced(x.Den-x.Num, x.Den))
	}
}

// A pair is separated if the letters of its angles are 0 and 1 (chapter 2), and led on by doubling
// (chapter 1): the rows are found again from what these chapters return.
func TestPairsFollowLettersAndDoubles(t *testing.T) {
	for _, x := range shortOrbits() {
		orbit, _ := impl.OrbitOf(x)
		pairs, _ := impl.PairsOfOrbit(x)
		matrix, _ := impl.PairMatrix(x)
		for k, pair := range pairs {
			a, b := orbit[pair[0]-1], orbit[pair[1]-1]
			first, _ := impl.LetterOf(a, x)
			second, _ := impl.LetterOf(b, x)
			a, _ = impl.DoubleAngle(a)
			b, _ = impl.DoubleAngle(b)
			targets := [][]impl.Angle{{a, b}}
			if first+second == "01" || first+second == "10" {
				targets = [][]impl.Angle{{x, a}, {x, b}}
			}
			want := make([]int64, len(pairs))
			for place, other := range pairs {
				for _, target := range targets {
					if slices.Contains(target, orbit[other[0]-1]) && slices.Contains(target, orbit[other[1]-1]) {
						want[place]++
					}
				}
			}
			checkNumbers(t, fmt.Sprintf("PairMatrix(%v), the row of %v", x, pair), matrix[k], impl.ErrNone, want, impl.ErrNone)
		}
	}
}
