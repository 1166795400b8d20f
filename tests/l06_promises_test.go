package tests

import (
	"fmt"
	"math"
	"slices"
	"testing"

	"loop.example/g01234/impl"
)

// Promise 6: trees have one edge less than vertices, and their ends are orbit points. All vertices
// hang together by edges.
func TestTreesHaveOneEdgeLessThanVertices(t *testing.T) {
	count, admissible := 0, 0
	for n := 1; n <= 8; n++ {
		for _, v := range starSequences(n) {
			checkTree(t, v)
			if is, _ := impl.IsAdmissible(v); is {
				admissible++
			}
			count++
		}
	}
	if count != 128 || admissible == count {
		t.Errorf("%d trees, %d of admissible sequences", count, admissible)
	}
}

// checkTree checks what is promised of the tree of a sequence, and that branch points have at least
// three arms, and orbit points at most two.
func checkTree(t *testing.T, v impl.Sequence) {
	t.Helper()
	vertices, code := impl.TreeVertices(v)
	edges, edgesCode := impl.TreeEdges(v)
	arms, armsCode := impl.ArmsOf(v)
	ends, endsCode := impl.TreeEnds(v)
	points, pointsCode := impl.OrbitPoints(v)
	if code != impl.ErrNone || edgesCode != impl.ErrNone || armsCode != impl.ErrNone || endsCode != impl.ErrNone || pointsCode != impl.ErrNone {
		t.Fatalf("the tree of %q has the codes %d, %d, %d, %d, %d", v, code, edgesCode, armsCode, endsCode, pointsCode)
	}
	if len(edges) != len(vertices)-1 || len(arms) != len(vertices) {
		t.Errorf("the tree of %q has %d edges, %d vertices and %d numbers of arms", v, len(edges), len(vertices), len(arms))
	}
	for _, end := range ends {
		if !slices.Contains(points, vertices[end]) {
			t.Errorf("the tree of %q ends with %q, no orbit point", v, vertices[end])
		}
	}
	for _, point := range points {
		if !slices.Contains(vertices, point) {
			t.Errorf("the tree of %q lacks %q", v, point)
		}
	}
	for i, count := range arms {
		if is := slices.Contains(points, vertices[i]); is != (count <= 2) {
			t.Errorf("the tree of %q has a vertex %q with %d arms", v, vertices[i], count)
		}
		if path := (handTree{v, vertices, edges}).path(0, int64(i), -1); path == nil {
			t.Errorf("the tree of %q does not hang together at %q", v, vertices[i])
		}
	}
}

// The guarantee of chapter 6: middles do not depend on the order of the points. A middle of vertices
// is a vertex.
func TestMiddlesDoNotDependOnTheOrder(t *testing.T) {
	for n := 1; n <= 6; n++ {
		for _, v := range starSequences(n) {
			vertices, _ := impl.TreeVertices(v)
			for i, a := range vertices {
				for j, b := range vertices[:i] {
					for _, c := range vertices[:j] {
						middle, code := impl.MiddleOf(v, a, b, c)
						if code != impl.ErrNone || !slices.Contains(vertices, middle) {
							t.Errorf("MiddleOf(%q, %q, %q, %q) = %q, %d", v, a, b, c, middle, code)
						}
						checkMiddles(t, v, [3]impl.Sequence{a, b, c}, middle, code)
					}
				}
			}
		}
	}
}

// The guarantee of chapter 6: paths have their ends at the vertices that are asked. Behind each other
// they have vertices that are joined, and all that are between the ends.
func TestPathsHaveTheirEndsAtTheVertices(t *testing.T) {
	for n := 1; n <= 7; n++ {
		for _, v := range starSequences(n) {
			vertices, _ := impl.TreeVertices(v)
			edges, _ := impl.TreeEdges(v)
			for i := range int64(len(vertices)) {
				for j := range int64(len(vertices)) {
					path, code := impl.TreePath(v, i, j)
					what := fmt.Sprintf("TreePath(%q, %d, %d) = %v", v, i, j, path)
					if code != impl.ErrNone || len(path) == 0 || path[0] != i || path[len(path)-1] != j {
						t.Fatalf("%s, code %d", what, code)
					}
					for k := range path[1:] {
						step := []int64{min(path[k], path[k+1]), max(path[k], path[k+1])}
						if !slices.ContainsFunc(edges, func(edge []int64) bool { return slices.Equal(edge, step) }) {
							t.Errorf("%s: %v is no edge", what, step)
						}
					}
					checkVerticesOfPath(t, what, v, vertices, path)
				}
			}
		}
	}
}

// checkVerticesOfPath checks that a path has just those vertices inside that are between its ends.
func checkVerticesOfPath(t *testing.T, what string, v impl.Sequence, vertices []impl.Sequence, path []int64) {
	t.Helper()
	first, last := path[0], path[len(path)-1]
	for k, s := range vertices {
		if first == last || int64(k) == first || int64(k) == last {
			continue
		}
		between, code := impl.IsBetween(v, vertices[first], s, vertices[last])
		checkAnswer(t, fmt.Sprintf("%s: is %d between the ends?", what, k), between, code, slices.Contains(path, int64(k)), impl.ErrNone)
	}
}

// Promise 13 with promise 6: both angles of a ray pair have the same kneading sequence. It is
// star-periodic, admissible and the one of its internal address, and its tree is as promised.
func TestTreesOfRayPairs(t *testing.T) {
	for _, pair := range allPairs(t) {
		v, code := impl.KneadingOf(pair.Lower)
		other, otherCode := impl.KneadingOf(pair.Upper)
		checkSequence(t, fmt.Sprintf("KneadingOf(%v)", pair.Upper), other, otherCode, v, code)
		star, code := impl.IsStarPeriodic(v)
		checkAnswer(t, fmt.Sprintf("IsStarPeriodic(%q)", v), star, code, true, impl.ErrNone)
		admissible, code := impl.IsAdmissible(v)
		checkAnswer(t, fmt.Sprintf("IsAdmissible(%q)", v), admissible, code, true, impl.ErrNone)
		address, _ := impl.InternalAddress(v)
		back, code := impl.SequenceOfAddress(address)
		checkSequence(t, fmt.Sprintf("SequenceOfAddress(%v)", address), back, code, v, impl.ErrNone)
		checkTree(t, v)
	}
}

// Images of edges grow as fast as pairs of points of the orbit of an angle do (chapter 8), which is
// found by angles alone.
func TestEdgesGrowLikePairsOfPoints(t *testing.T) {
	growing := 0
	for _, pair := range allPairs(t) {
		v, _ := impl.KneadingOf(pair.Lower)
		matrix, code := impl.EdgeMatrix(v)
		if code != impl.ErrNone {
			t.Fatalf("EdgeMatrix(%q): code %d", v, code)
		}
		got, want := growthOf(matrix), growthOf(pairMatrixByHand(pair.Lower))
		if math.Abs(got-want) > 0.001 {
			t.Errorf("the edges of the tree of %q grow by %f, the pairs of %v by %f", v, got, pair.Lower, want)
		}
		if want > 1.1 {
			growing++
		}
	}
	if growing < 50 {
		t.Errorf("only %d pairs of angles grow", growing)
	}
}

// The tree of the sequence with the address {1, n} is a star: one branch point with all arms.
func TestTreesThatAreStars(t *testing.T) {
	for n := int64(3); n <= 8; n++ {
		v, _ := impl.SequenceOfAddress([]int64{1, n})
		branches, code := impl.BranchPoints(v)
		checkSequences(t, fmt.Sprintf("BranchPoints(%q)", v), branches, code, []impl.Sequence{periodic("1")}, impl.ErrNone)
		arms, code := impl.ArmsOf(v)
		checkNumbers(t, fmt.Sprintf("ArmsOf(%q)", v), arms, code, append(slices.Repeat([]int64{1}, int(n)), n), impl.ErrNone)
	}
}
