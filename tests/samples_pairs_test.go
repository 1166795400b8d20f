package tests

import (
	"math"
	"math/big"
	"slices"

	"loop.example/g01234/impl"
)

// orbitSize returns how many angles the orbit of an angle has.
func orbitSize(t impl.Angle) int64 {
	preperiod, period := orbitByNumbers(t.Num, t.Den)
	return preperiod + period
}

// shortOrbits returns all angles whose orbits have at most MaxPoints angles: none of them has a Den
// greater than 127.
func shortOrbits() []impl.Angle {
	return slices.DeleteFunc(anglesUpTo(127), func(t impl.Angle) bool { return orbitSize(t) > 7 })
}

// longOrbits returns angles with an orbit of one angle more than MaxPoints, of some more, of MaxOrbit,
// and of more than these.
func longOrbits() []impl.Angle {
	return []impl.Angle{
		angle(1, 128), angle(127, 128), angle(3, 128), angle(1, 192), angle(1, 255), angle(127, 255), angle(1, 17), angle(1, 68),
		angle(1, 256), angle(1, 511), angle(1, 11), angle(1, 8191), angle(5, 4096), angle(1, 641), angle(1, 1282), angle(1, 131), angle(130, 131), angle(1, 8179), angle(8178, 8179), angle(4, 8179),
	}
}

// pairsUpToPoints returns the pairs of the numbers 1 to m, in order.
func pairsUpToPoints(m int64) [][]int64 {
	pairs := [][]int64{}
	for number := range m * m {
		if i, j := number/m+1, number%m+1; i < j {
			pairs = append(pairs, []int64{i, j})
		}
	}
	return pairs
}

// pointLetters returns the letters of all angles of the orbit of an angle for it, and the numbers of
// their images, counted from 1.
func pointLetters(t impl.Angle) (string, []int64) {
	letters, images := "", []int64{}
	preperiod, period := orbitByNumbers(t.Num, t.Den)
	x := t
	for i := int64(1); i <= preperiod+period; i++ {
		letters += kneadingLetterByNumbers(x, t)
		images = append(images, i+1)
		x = doubleByHand(x)
	}
	images[len(images)-1] = preperiod + 1
	return letters, images
}

// separatedByHand reports which of the pairs of an angle are separated, in their order.
func separatedByHand(t impl.Angle) []bool {
	letters, _ := pointLetters(t)
	list := []bool{}
	for _, pair := range pairsUpToPoints(orbitSize(t)) {
		both := letters[pair[0]-1:pair[0]] + letters[pair[1]-1:pair[1]]
		list = append(list, both == "01" || both == "10")
	}
	return list
}

// ledByHand returns for each pair of an angle, in order, the places of those to which it leads, some
// of them twice.
func ledByHand(t impl.Angle) [][]int {
	_, images := pointLetters(t)
	pairs, separated := pairsUpToPoints(orbitSize(t)), separatedByHand(t)
	led := make([][]int, len(pairs))
	for k, pair := range pairs {
		a, b := images[pair[0]-1], images[pair[1]-1]
		targets := [][]int64{{a, b}}
		if separated[k] {
			targets = [][]int64{{a, 1}, {b, 1}}
		}
		for _, target := range targets {
			slices.Sort(target)
			if target[0] != target[1] {
				led[k] = append(led[k], slices.IndexFunc(pairs, func(other []int64) bool { return slices.Equal(other, target) }))
			}
		}
	}
	return led
}

// pairMatrixByHand returns the pair matrix of an angle, however many angles its orbit has.
func pairMatrixByHand(t impl.Angle) [][]int64 {
	matrix := [][]int64{}
	led := ledByHand(t)
	for _, targets := range led {
		row := make([]int64, len(led))
		for _, target := range targets {
			row[target]++
		}
		matrix = append(matrix, row)
	}
	return matrix
}

// metByHand returns the numbers with which all pairs are met after 0 to k steps, if one of them is met
// once at first, by going on from each pair that is met.
func metByHand(led [][]int, start int, k int64) [][]int64 {
	met := make([]int64, len(led))
	met[start] = 1
	list := [][]int64{met}
	for range k {
		next := make([]int64, len(led))
		for from, targets := range led {
			for _, target := range targets {
				next[target] += met[from]
			}
		}
		list, met = append(list, next), next
	}
	return list
}

// countsByHand returns the counts of paths of an angle, and the traces, for the lengths 0 to k.
func countsByHand(t impl.Angle, k int64) ([]int64, []int64) {
	counts, traces := make([]int64, k+1), make([]int64, k+1)
	led := ledByHand(t)
	for start := range led {
		for length, met := range metByHand(led, start, k) {
			traces[length] += met[start]
			for _, number := range met {
				counts[length] += number
			}
		}
	}
	return counts, traces
}

// digitSize is a number of which the coefficients of all polynomials here are the digits, less than
// half of it, whatever their sign is: with 21 rows of sums of at most 2, the sum of the coefficients
// without their signs is at most 3^21.
var digitSize = new(big.Int).Lsh(big.NewInt(1), 40)

// polynomialByHand returns the characteristic polynomial of a matrix as the digits of one
// determinant: that of z times the unit matrix, less the matrix, for z = 2^40.
func polynomialByHand(matrix [][]int64) []int64 {
	cells := [][]*big.Int{}
	for i, row := range matrix {
		line := []*big.Int{}
		for _, entry := range row {
			line = append(line, big.NewInt(-entry))
		}
		line[i].Add(line[i], digitSize)
		cells = append(cells, line)
	}
	rest := determinant(cells)
	list := []int64{}
	half := new(big.Int).Rsh(digitSize, 1)
	for range len(matrix) + 1 {
		digit := new(big.Int).Mod(rest, digitSize)
		if digit.Cmp(half) >= 0 {
			digit.Sub(digit, digitSize)
		}
		list = append(list, digit.Int64())
		rest.Quo(rest.Sub(rest, digit), digitSize)
	}
	return list
}

// determinant returns the determinant of a matrix by Bareiss' elimination without fractions, for a
// matrix whose diagonal is so great that no rows have to change places. It overwrites the matrix.
func determinant(cells [][]*big.Int) *big.Int {
	last := big.NewInt(1)
	for k := range cells {
		for i := k + 1; i < len(cells); i++ {
			for j := k + 1; j < len(cells); j++ {
				product := new(big.Int).Mul(cells[i][j], cells[k][k])
				product.Sub(product, new(big.Int).Mul(cells[i][k], cells[k][j]))
				cells[i][j] = product.Quo(product, last)
			}
		}
		last = cells[k][k]
	}
	return new(big.Int).Set(last)
}

// productByHand returns the product of two matrices.
func productByHand(a, b [][]int64) [][]int64 {
	product := [][]int64{}
	for i := range a {
		row := make([]int64, len(a))
		for j := range a {
			for k := range a {
				row[j] += a[i][k] * b[k][j]
			}
		}
		product = append(product, row)
	}
	return product
}

// valueAt returns what a polynomial makes of a matrix.
func valueAt(polynomial []int64, a [][]int64) [][]int64 {
	value := squareOf(len(a), 0)
	for _, coefficient := range slices.Backward(polynomial) {
		value = productByHand(value, a)
		for i := range value {
			value[i][i] += coefficient
		}
	}
	return value
}

// squareOf returns the matrix of n rows that has a number in its diagonal, and zeros.
func squareOf(n int, diagonal int64) [][]int64 {
	matrix := [][]int64{}
	for i := range n {
		row := make([]int64, n)
		row[i] = diagonal
		matrix = append(matrix, row)
	}
	return matrix
}

// circleOf returns the matrix of n rows that leads each number to the next one, and the last one to
// the first one, with some entry.
func circleOf(n int, entry int64) [][]int64 {
	matrix := squareOf(n, entry)
	return append(matrix[1:], matrix[0])
}

// rowsUpToTwo returns all lists of n numbers of at least 0 with a sum of at most 2.
func rowsUpToTwo(n int) [][]int64 {
	list := [][]int64{{}}
	for range n {
		longer := [][]int64{}
		for _, row := range list {
			for entry := range int64(3) {
				longer = append(longer, append(slices.Clone(row), entry))
			}
		}
		list = slices.DeleteFunc(longer, func(row []int64) bool { return sumByHand(row) > 2 })
	}
	return list
}

func sumByHand(row []int64) int64 {
	sum := int64(0)
	for _, entry := range row {
		sum += entry
	}
	return sum
}

// smallMatrices returns all matrices of at most n rows that CharacteristicOf takes.
func smallMatrices(n int) [][][]int64 {
	all := [][][]int64{nil}
	for size := 1; size <= n; size++ {
		list := [][][]int64{{}}
		for range size {
			longer := [][][]int64{}
			for _, matrix := range list {
				for _, row := range rowsUpToTwo(size) {
					longer = append(longer, append(slices.Clone(matrix), row))
				}
			}
			list = longer
		}
		all = append(all, list...)
	}
	return all
}

// lotMatrices returns matrices of 4 to 21 rows that look as if they were drawn by lot: rows have up to
// two ones, or a two.
func lotMatrices() [][][]int64 {
	list := [][][]int64{}
	for size := 4; size <= 21; size++ {
		drawn := lotWords(4*size, 12, 12)
		for begin := 0; begin < len(drawn); begin += size {
			matrix := squareOf(size, 0)
			for i, word := range drawn[begin : begin+size] {
				matrix[i][numberByHand(word[:5])%size] += int64(word[10] - '0')
				matrix[i][numberByHand(word[5:10])%size] += int64(word[11] - '0')
			}
			list = append(list, matrix)
		}
	}
	return list
}

// numberByHand returns the number with some binary digits.
func numberByHand(word string) int {
	number := 0
	for _, digit := range word {
		number = 2*number + int(digit-'0')
	}
	return number
}

// notLengths returns numbers that are in no range that begins with 0 and ends with most.
func notLengths(most int64) []int64 {
	return []int64{-1, -2, most + 1, most + 2, 64, 100, 1 << 32, -1 << 32, 1<<32 + 1, math.MaxInt64, math.MinInt64, math.MinInt64 + 1}
}
