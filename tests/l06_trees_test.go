package tests

import (
	"fmt"
	"math"
	"slices"
	"strings"
	"testing"

	"loop.example/g01234/impl"
)

// knownTrees returns some trees, written out: a point alone, trees without a branch point, with one
// and with several, also ones of sequences that are not admissible, and one with branch points that
// do not come back.
func knownTrees() []struct {
	v        string
	branches []impl.Sequence
	edges    [][]int64
	arms     []int64
	ends     []int64
	images   []int64
	matrix   [][]int64
} {
	return []struct {
		v        string
		branches []impl.Sequence
		edges    [][]int64
		arms     []int64
		ends     []int64
		images   []int64
		matrix   [][]int64
	}{
		{"*", nil, nil, []int64{0}, []int64{0}, []int64{0}, nil},
		{"1*", nil, [][]int64{{0, 1}}, []int64{1, 1}, []int64{0, 1}, []int64{1, 0}, [][]int64{{1}}},
		{"10*", nil, [][]int64{{0, 2}, {1, 2}}, []int64{1, 1, 2}, []int64{0, 1}, []int64{1, 2, 0}, [][]int64{{1, 1}, {1, 0}}},
		{"11*", []impl.Sequence{periodic("1")}, [][]int64{{0, 3}, {1, 3}, {2, 3}}, []int64{1, 1, 1, 3}, []int64{0, 1, 2}, []int64{1, 2, 0, 3}, [][]int64{{0, 1, 0}, {0, 0, 1}, {1, 0, 0}}},
		{"100*", nil, [][]int64{{0, 3}, {1, 2}, {2, 3}}, []int64{1, 1, 2, 2}, []int64{0, 1}, []int64{1, 2, 3, 0}, [][]int64{{1, 1, 1}, {0, 0, 1}, {1, 0, 0}}},
		{"110*", []impl.Sequence{periodic("1")}, [][]int64{{0, 4}, {1, 4}, {2, 3}, {3, 4}}, []int64{1, 1, 1, 2, 3}, []int64{0, 1, 2}, []int64{1, 2, 3, 0, 4}, [][]int64{{0, 1, 0, 0}, {0, 0, 1, 1}, {1, 0, 0, 1}, {1, 0, 0, 0}}},
		{
			"1010*", []impl.Sequence{periodic("01"), periodic("10")}, [][]int64{{0, 6}, {1, 5}, {2, 6}, {3, 5}, {4, 5}, {4, 6}}, []int64{1, 1, 1, 1, 2, 3, 3}, []int64{0, 1, 2, 3}, []int64{1, 2, 3, 4, 0, 6, 5},
			[][]int64{{0, 1, 0, 0, 0, 0}, {0, 0, 1, 0, 0, 0}, {0, 0, 0, 1, 0, 0}, {0, 0, 0, 0, 0, 1}, {1, 0, 0, 0, 0, 0}, {1, 0, 0, 0, 1, 1}},
		},
		{
			"10110*", []impl.Sequence{periodic("011"), periodic("101"), periodic("110")}, [][]int64{{0, 7}, {1, 6}, {2, 8}, {3, 7}, {4, 6}, {5, 6}, {5, 8}, {7, 8}}, []int64{1, 1, 1, 1, 1, 2, 3, 3, 3}, []int64{0, 1, 2, 3, 4}, []int64{1, 2, 3, 4, 5, 0, 8, 6, 7},
			[][]int64{{0, 1, 0, 0, 0, 0, 0, 0}, {0, 0, 1, 0, 0, 0, 0, 0}, {0, 0, 0, 1, 0, 0, 0, 0}, {0, 0, 0, 0, 1, 0, 0, 0}, {0, 0, 0, 0, 0, 0, 1, 0}, {1, 0, 0, 0, 0, 0, 0, 1}, {1, 0, 0, 0, 0, 0, 0, 0}, {0, 0, 0, 0, 0, 1, 1, 1}},
		},
		{
			"1100010*", []impl.Sequence{periodic("1"), sequence("0", "1"), sequence("00", "1")}, [][]int64{{0, 8}, {1, 5}, {2, 10}, {3, 10}, {4, 9}, {5, 8}, {6, 9}, {6, 10}, {7, 8}, {7, 9}}, []int64{1, 1, 1, 1, 1, 2, 2, 2, 3, 3, 3}, []int64{0, 1, 2, 3, 4}, []int64{1, 2, 3, 4, 5, 6, 7, 0, 8, 8, 9},
			[][]int64{{0, 1, 0, 0, 0, 1, 0, 0, 0, 0}, {0, 0, 1, 0, 0, 0, 0, 1, 0, 0}, {0, 0, 0, 1, 0, 0, 1, 1, 0, 0}, {0, 0, 0, 0, 1, 0, 0, 0, 0, 0}, {0, 0, 0, 0, 0, 1, 0, 0, 0, 0}, {0, 0, 0, 0, 0, 0, 1, 0, 1, 1}, {0, 0, 0, 0, 0, 0, 0, 0, 1, 0}, {0, 0, 0, 0, 0, 0, 0, 0, 0, 1}, {1, 0, 0, 0, 0, 0, 0, 0, 0, 0}, {1, 0, 0, 0, 0, 0, 0, 0, 0, 0}},
		},
	}
}

func TestKnownTrees(t *testing.T) {
	for _, c := range knownTrees() {
		v := periodic(c.v)
		branches, code := impl.BranchPoints(v)
		checkSequences(t, fmt.Sprintf("BranchPoints(%q)", v), branches, code, c.branches, impl.ErrNone)
		points, _ := impl.OrbitPoints(v)
		vertices, code := impl.TreeVertices(v)
		checkSequences(t, fmt.Sprintf("TreeVertices(%q)", v), vertices, code, append(points, c.branches...), impl.ErrNone)
		edges, code := impl.TreeEdges(v)
		checkLists(t, fmt.Sprintf("TreeEdges(%q)", v), edges, code, c.edges, impl.ErrNone)
		arms, code := impl.ArmsOf(v)
		checkNumbers(t, fmt.Sprintf("ArmsOf(%q)", v), arms, code, c.arms, impl.ErrNone)
		ends, code := impl.TreeEnds(v)
		checkNumbers(t, fmt.Sprintf("TreeEnds(%q)", v), ends, code, c.ends, impl.ErrNone)
		for i, want := range c.images {
			image, code := impl.TreeImage(v, int64(i))
			checkNumber(t, fmt.Sprintf("TreeImage(%q, %d)", v, i), image, code, want, impl.ErrNone)
		}
		matrix, code := impl.EdgeMatrix(v)
		checkLists(t, fmt.Sprintf("EdgeMatrix(%q)", v), matrix, code, c.matrix, impl.ErrNone)
	}
}

func TestTreePath(t *testing.T) {
	for _, c := range []struct {
		v    string
		want []int64
	}{
		{"*", []int64{0}}, {"1*", []int64{0}}, {"1*", []int64{1}}, {"1*", []int64{0, 1}}, {"1*", []int64{1, 0}},
		{"10*", []int64{0, 2, 1}}, {"10*", []int64{1, 2, 0}}, {"10*", []int64{0, 2}}, {"10*", []int64{2}}, {"11*", []int64{0, 3, 1}}, {"11*", []int64{2, 3, 0}}, {"11*", []int64{3, 1}}, {"11*", []int64{3}},
		{"100*", []int64{0, 3, 2, 1}}, {"100*", []int64{1, 2, 3, 0}}, {"100*", []int64{2, 3, 0}}, {"1010*", []int64{0, 6, 4, 5, 1}}, {"1010*", []int64{3, 5, 4, 6, 2}}, {"1010*", []int64{2, 6, 0}}, {"1010*", []int64{6, 4, 5}},
		{"10110*", []int64{0, 7, 8, 5, 6, 1}}, {"10110*", []int64{4, 6, 5, 8, 7, 3}}, {"10110*", []int64{8}}, {"10110*", []int64{8, 7, 0}}, {"1100010*", []int64{1, 5, 8, 7, 9, 6, 10, 3}},
	} {
		first, last := c.want[0], c.want[len(c.want)-1]
		got, code := impl.TreePath(periodic(c.v), first, last)
		checkNumbers(t, fmt.Sprintf("TreePath(%q, %d, %d)", c.v, first, last), got, code, c.want, impl.ErrNone)
	}
}

// TestTreesByHand holds all trees of the periods up to MaxTree against those found without the
// program.
func TestTreesByHand(t *testing.T) {
	without, most := 0, 0
	for _, tree := range handTrees() {
		v, n := tree.v, len(tree.v.Per)
		branches, code := impl.BranchPoints(v)
		checkSequences(t, fmt.Sprintf("BranchPoints(%q)", v), branches, code, tree.vertices[n:], impl.ErrNone)
		vertices, code := impl.TreeVertices(v)
		checkSequences(t, fmt.Sprintf("TreeVertices(%q)", v), vertices, code, tree.vertices, impl.ErrNone)
		edges, code := impl.TreeEdges(v)
		checkLists(t, fmt.Sprintf("TreeEdges(%q)", v), edges, code, tree.edges, impl.ErrNone)
		arms, code := impl.ArmsOf(v)
		checkNumbers(t, fmt.Sprintf("ArmsOf(%q)", v), arms, code, tree.arms(), impl.ErrNone)
		ends, code := impl.TreeEnds(v)
		checkNumbers(t, fmt.Sprintf("TreeEnds(%q)", v), ends, code, tree.ends(), impl.ErrNone)
		matrix, code := impl.EdgeMatrix(v)
		checkLists(t, fmt.Sprintf("EdgeMatrix(%q)", v), matrix, code, tree.matrix(), impl.ErrNone)
		if len(branches) == 0 {
			without++
		}
		most = max(most, len(branches))
	}
	if without < 20 || most < 5 {
		t.Errorf("%d trees without a branch point, up to %d branch points", without, most)
	}
}

func TestPathsByHand(t *testing.T) {
	for _, tree := range handTrees() {
		for i := range int64(len(tree.vertices)) {
			for j := range int64(len(tree.vertices)) {
				got, code := impl.TreePath(tree.v, i, j)
				checkNumbers(t, fmt.Sprintf("TreePath(%q, %d, %d)", tree.v, i, j), got, code, tree.path(i, j, -1), impl.ErrNone)
			}
		}
	}
}

// TestImagesByHand finds an image for each vertex of each tree: no tree is known in which one has
// none.
func TestImagesByHand(t *testing.T) {
	for _, tree := range handTrees() {
		for i := range int64(len(tree.vertices)) {
			want := tree.image(i)
			if want < 0 {
				t.Errorf("by hand, the vertex %d of the tree of %q has no image", i, tree.v)
			}
			got, code := impl.TreeImage(tree.v, i)
			checkNumber(t, fmt.Sprintf("TreeImage(%q, %d)", tree.v, i), got, code, want, impl.ErrNone)
			shifted, _ := impl.ShiftSequence(tree.vertices[i])
			if vertices, _ := impl.TreeVertices(tree.v); vertices[got] != shifted {
				t.Errorf("TreeImage(%q, %d) = %d, not the shifted vertex", tree.v, i, got)
			}
		}
	}
}

// checkNoTree checks that all functions that ask for a tree return a code, those with numbers of
// vertices for numbers that a tree may have and for others.
func checkNoTree(t *testing.T, v impl.Sequence, want int64) {
	t.Helper()
	branches, code := impl.BranchPoints(v)
	checkSequences(t, fmt.Sprintf("BranchPoints(%q)", v), branches, code, nil, want)
	vertices, code := impl.TreeVertices(v)
	checkSequences(t, fmt.Sprintf("TreeVertices(%q)", v), vertices, code, nil, want)
	edges, code := impl.TreeEdges(v)
	checkLists(t, fmt.Sprintf("TreeEdges(%q)", v), edges, code, nil, want)
	arms, code := impl.ArmsOf(v)
	checkNumbers(t, fmt.Sprintf("ArmsOf(%q)", v), arms, code, nil, want)
	ends, code := impl.TreeEnds(v)
	checkNumbers(t, fmt.Sprintf("TreeEnds(%q)", v), ends, code, nil, want)
	matrix, code := impl.EdgeMatrix(v)
	checkLists(t, fmt.Sprintf("EdgeMatrix(%q)", v), matrix, code, nil, want)
	for _, i := range []int64{0, 1, 8, -1, 100, math.MinInt64, math.MaxInt64} {
		for _, j := range []int64{0, 2, -1, math.MaxInt64} {
			checkNoPath(t, v, i, j, want)
		}
		image, code := impl.TreeImage(v, i)
		checkNumber(t, fmt.Sprintf("TreeImage(%q, %d)", v, i), image, code, 0, want)
	}
}

// checkNoPath checks that TreePath returns a code.
func checkNoPath(t *testing.T, v impl.Sequence, i, j int64, want int64) {
	t.Helper()
	path, code := impl.TreePath(v, i, j)
	checkNumbers(t, fmt.Sprintf("TreePath(%q, %d, %d)", v, i, j), path, code, nil, want)
}

func TestErrorsOfTrees(t *testing.T) {
	for _, bad := range notSequences() {
		checkNoTree(t, bad, impl.ErrInvalid)
	}
	// A period greater than MaxTree does not come ahead.
	for _, v := range append(notStarPeriodic(), periodic("011010100*"), periodic("1"), periodic(strings.Repeat("1", 63)+"0")) {
		checkNoTree(t, v, impl.ErrState)
	}
	for _, v := range slices.Concat(starSequences(9), starSequences(10)[:3], longStar()) {
		checkNoTree(t, v, impl.ErrRange)
	}
}

func TestNumbersOfVertices(t *testing.T) {
	for _, c := range knownTrees() {
		v, count := periodic(c.v), int64(len(c.arms))
		for _, bad := range []int64{-1, -2, count, count + 1, math.MinInt64, math.MaxInt64, 1 << 32, -1 << 32} {
			image, code := impl.TreeImage(v, bad)
			checkNumber(t, fmt.Sprintf("TreeImage(%q, %d)", v, bad), image, code, 0, impl.ErrRange)
			for _, other := range []int64{0, count - 1, count, -1, bad} {
				checkNoPath(t, v, bad, other, impl.ErrRange)
				checkNoPath(t, v, other, bad, impl.ErrRange)
			}
		}
	}
}

// TestResultsOfChapter6AreNew writes into results and into the room behind them, and asks again.
func TestResultsOfChapter6AreNew(t *testing.T) {
	for _, c := range knownTrees() {
		v, last := periodic(c.v), int64(len(c.arms)-1)
		points, _ := impl.OrbitPoints(v)
		path := handTree{v, append(points, c.branches...), c.edges}.path(last, 0, -1)
		for range 2 {
			branches, code := impl.BranchPoints(v)
			checkSequences(t, fmt.Sprintf("BranchPoints(%q)", v), branches, code, c.branches, impl.ErrNone)
			overwrite(branches, periodic("0"))
			vertices, code := impl.TreeVertices(v)
			checkSequences(t, fmt.Sprintf("TreeVertices(%q)", v), vertices, code, slices.Concat(points, c.branches), impl.ErrNone)
			overwrite(vertices, periodic("0"))
			arms, code := impl.ArmsOf(v)
			checkNumbers(t, fmt.Sprintf("ArmsOf(%q)", v), arms, code, c.arms, impl.ErrNone)
			overwrite(arms, -1)
			ends, code := impl.TreeEnds(v)
			checkNumbers(t, fmt.Sprintf("TreeEnds(%q)", v), ends, code, c.ends, impl.ErrNone)
			overwrite(ends, -1)
			got, code := impl.TreePath(v, last, 0)
			checkNumbers(t, fmt.Sprintf("TreePath(%q, %d, 0)", v, last), got, code, path, impl.ErrNone)
			overwrite(got, -1)
		}
		edges, _ := impl.TreeEdges(v)
		checkRowsAreApart(t, fmt.Sprintf("TreeEdges(%q)", v), edges, c.edges)
		edges, code := impl.TreeEdges(v)
		checkLists(t, fmt.Sprintf("TreeEdges(%q) again", v), edges, code, c.edges, impl.ErrNone)
		matrix, _ := impl.EdgeMatrix(v)
		checkRowsAreApart(t, fmt.Sprintf("EdgeMatrix(%q)", v), matrix, c.matrix)
		matrix, code = impl.EdgeMatrix(v)
		checkLists(t, fmt.Sprintf("EdgeMatrix(%q) again", v), matrix, code, c.matrix, impl.ErrNone)
	}
}

// checkRowsAreApart writes into each list of a result, and into the room behind it, and looks at the
// others.
func checkRowsAreApart(t *testing.T, what string, got, want [][]int64) {
	t.Helper()
	for i := range got {
		// The room behind a list may not be that of another one either.
		overwrite(got[i][:cap(got[i])], -1)
		for j := i + 1; j < len(got); j++ {
			checkNumbers(t, fmt.Sprintf("%s with the list %d written into: the list %d", what, i, j), got[j], impl.ErrNone, want[j], impl.ErrNone)
		}
		for j := range i {
			if slices.ContainsFunc(got[j], func(k int64) bool { return k != -1 }) {
				t.Errorf("%s with the list %d written into: the list %d is %v", what, i, j, got[j])
			}
		}
	}
}
