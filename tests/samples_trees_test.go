package tests

import (
	"math"
	"slices"
	"strings"
	"sync"
	"testing"

	"loop.example/g01234/impl"
)

// Sequences of at most MaxOrbit letters that are equal in their first apart letters are equal. The
// first toldLetters letters of a point are enough for it to lose one in each of MaxSteps steps, and
// to be told apart behind them.
const (
	apart       = 128
	toldLetters = 900
)

// isPointByHand reports whether what follows each `*` is v.
func isPointByHand(v, s impl.Sequence) bool {
	letters, start := lettersByHand(s, 2*apart), lettersByHand(v, apart)
	for k := range apart {
		if letters[k] == '*' && letters[k+1:k+1+apart] != start {
			return false
		}
	}
	return true
}

// middleLettersByHand returns the first letters of the middle of three points, and the number of its
// steps, found by texts of letters alone, without a limit for either.
func middleLettersByHand(v, s, t, u impl.Sequence) (string, int) {
	start := lettersByHand(v, toldLetters)
	points := []string{lettersByHand(s, toldLetters), lettersByHand(t, toldLetters), lettersByHand(u, toldLetters)}
	met := map[[3]string]int{}
	for word := ""; ; {
		now := [3]string{points[0][:apart], points[1][:apart], points[2][:apart]}
		firsts := now[0][:1] + now[1][:1] + now[2][:1]
		for i := range now {
			if now[i] == now[(i+1)%3] || firsts[i] == '*' && firsts[(i+1)%3] != firsts[(i+2)%3] {
				return word + points[i], len(word)
			}
		}
		if before, again := met[now]; again {
			return word[:before] + strings.Repeat(word[before:], toldLetters), len(word)
		}
		met[now] = len(word)
		letter, other := "0", "1"
		if strings.Count(firsts, "1") >= 2 {
			letter, other = "1", "0"
		}
		for i := range points {
			points[i] = points[i][1:]
			if firsts[i:i+1] == other {
				points[i] = start
			}
		}
		word += letter
	}
}

// toldByHand returns the sequence with many given letters, or ErrLimit if it has more than MaxOrbit
// letters itself: the shortest Per for which the letters agree with those behind it from the end on.
func toldByHand(letters string) (impl.Sequence, int64) {
	for per := 1; per <= 64; per++ {
		pre := len(letters) - per
		for pre > 0 && letters[pre-1] == letters[pre-1+per] {
			pre--
		}
		if pre+per <= 64 {
			return sequence(letters[:pre], letters[pre:pre+per]), impl.ErrNone
		}
	}
	return impl.Sequence{}, impl.ErrLimit
}

// middleByHand returns what MiddleOf has to return for three different points.
func middleByHand(v, s, t, u impl.Sequence) (impl.Sequence, int64) {
	letters, steps := middleLettersByHand(v, s, t, u)
	if steps > 600 {
		return impl.Sequence{}, impl.ErrLimit
	}
	return toldByHand(letters)
}

// handTree is the tree of a sequence, found without the program.
type handTree struct {
	v        impl.Sequence
	vertices []impl.Sequence
	edges    [][]int64
}

// text writes a sequence as its text.
func text(s impl.Sequence) string {
	return s.Pre + "(" + s.Per + ")"
}

// treeByHand returns the tree of a sequence.
func treeByHand(v impl.Sequence) handTree {
	points, branches := []impl.Sequence{}, []impl.Sequence{}
	for k := range v.Per {
		points = append(points, sequence("", v.Per[k:]+v.Per[:k]))
	}
	for i, s := range points {
		for j, t := range points[:i] {
			for _, u := range points[:j] {
				middle, _ := middleByHand(v, s, t, u)
				if middle != s && middle != t && middle != u {
					branches = append(branches, middle)
				}
			}
		}
	}
	slices.SortFunc(branches, func(a, b impl.Sequence) int { return strings.Compare(text(a), text(b)) })
	tree := handTree{v, append(points, slices.Compact(branches)...), nil}
	for i := range tree.vertices {
		for j := range tree.vertices {
			if i < j && !tree.hasBetween(i, j) {
				tree.edges = append(tree.edges, []int64{int64(i), int64(j)})
			}
		}
	}
	return tree
}

// hasBetween reports whether a vertex is between two others.
func (tree handTree) hasBetween(i, j int) bool {
	for k, s := range tree.vertices {
		if k == i || k == j {
			continue
		}
		if middle, _ := middleByHand(tree.v, tree.vertices[i], s, tree.vertices[j]); middle == s {
			return true
		}
	}
	return false
}

// arms returns the numbers of edges of all vertices.
func (tree handTree) arms() []int64 {
	list := make([]int64, len(tree.vertices))
	for _, edge := range tree.edges {
		list[edge[0]]++
		list[edge[1]]++
	}
	return list
}

// ends returns the numbers of the vertices with at most one edge.
func (tree handTree) ends() []int64 {
	list := []int64{}
	for i, arms := range tree.arms() {
		if arms < 2 {
			list = append(list, int64(i))
		}
	}
	return list
}

// path returns the way from i to j along edges, which does not come back to before, or nothing if
// there is none.
func (tree handTree) path(i, j, before int64) []int64 {
	if i == j {
		return []int64{i}
	}
	for _, edge := range tree.edges {
		next := edge[0] + edge[1] - i
		if !slices.Contains(edge, i) || next == before {
			continue
		}
		if rest := tree.path(next, j, i); rest != nil {
			return append([]int64{i}, rest...)
		}
	}
	return nil
}

// image returns the number of the vertex with all letters of the vertex i but the first one, or -1.
func (tree handTree) image(i int64) int64 {
	behind := lettersByHand(tree.vertices[i], apart+1)[1:]
	return int64(slices.IndexFunc(tree.vertices, func(s impl.Sequence) bool { return lettersByHand(s, apart) == behind }))
}

// matrix returns the edge matrix.
func (tree handTree) matrix() [][]int64 {
	rows := [][]int64{}
	for _, edge := range tree.edges {
		row := make([]int64, len(tree.edges))
		path := tree.path(tree.image(edge[0]), tree.image(edge[1]), -1)
		for k := range path[1:] {
			step := []int64{min(path[k], path[k+1]), max(path[k], path[k+1])}
			row[slices.IndexFunc(tree.edges, func(e []int64) bool { return slices.Equal(e, step) })]++
		}
		rows = append(rows, row)
	}
	return rows
}

// handTrees returns the trees of all star-periodic sequences of the periods up to MaxTree. They are
// found once, as this takes a while.
var handTrees = sync.OnceValue(func() []handTree {
	list := []handTree{}
	for n := 1; n <= 8; n++ {
		for _, v := range starSequences(n) {
			list = append(list, treeByHand(v))
		}
	}
	return list
})

// lotWords returns words of the letters 0 and 1 that look as if they were drawn by lot, with the
// lengths from least to most.
func lotWords(count int, least, most uint64) []string {
	list := []string{}
	state := uint64(6)
	next := func(n uint64) uint64 {
		state = state*6364136223846793005 + 1442695040888963407
		return state >> 33 % n
	}
	for range count {
		word := ""
		for range least + next(most-least+1) {
			word += string('0' + rune(next(2)))
		}
		list = append(list, word)
	}
	return list
}

// growthOf returns by which factor the sums of the powers of a matrix grow in the end. It looks at
// the power 2^20 of the matrix with the unit matrix added, which grows by 1 more and without waves.
func growthOf(matrix [][]int64) float64 {
	power := make([][]float64, len(matrix))
	for i, row := range matrix {
		power[i] = make([]float64, len(matrix))
		for j, entry := range row {
			power[i][j] = float64(entry)
		}
		power[i][i]++
	}
	logarithm := 0.0
	for range 20 {
		square, sum := make([][]float64, len(power)), 0.0
		for i := range power {
			square[i] = make([]float64, len(power))
			for k, factor := range power[i] {
				for j := range power {
					square[i][j] += factor * power[k][j]
				}
			}
			for j := range power {
				sum += square[i][j]
			}
		}
		for i := range square {
			for j := range square {
				square[i][j] /= sum
			}
		}
		logarithm = 2*logarithm + math.Log(sum)
		power = square
	}
	return math.Exp(logarithm/(1<<20)) - 1
}

func checkSequences(t *testing.T, what string, got []impl.Sequence, code int64, want []impl.Sequence, wantCode int64) {
	t.Helper()
	if !slices.Equal(got, want) || code != wantCode {
		t.Errorf("%s: got %q, %d; want %q, %d", what, got, code, want, wantCode)
	}
}

func checkLists(t *testing.T, what string, got [][]int64, code int64, want [][]int64, wantCode int64) {
	t.Helper()
	if !slices.EqualFunc(got, want, slices.Equal[[]int64]) || code != wantCode {
		t.Errorf("%s: got %v, %d; want %v, %d", what, got, code, want, wantCode)
	}
}
