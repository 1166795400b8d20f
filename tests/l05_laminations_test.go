package tests

import (
	"fmt"
	"math"
	"slices"
	"testing"

	"loop.example/g01234/impl"
)

// notDepths returns numbers that are not in 0..MaxDepth.
func notDepths() []int64 {
	return []int64{-1, 7, -2, 8, -6, -7, 64, 200, 256, 1 << 32, 1<<32 + 3, math.MaxInt64, math.MinInt64, math.MinInt64 + 3}
}

// grownSamples returns minor leaves whose laminations have many leaves, or ends with a great Den.
func grownSamples() []impl.Leaf {
	return append(minorSamples(),
		leaf(48, 97, 49, 97), leaf(50, 101, 51, 101), leaf(281, 564, 283, 564), leaf(0, 1, 64, 65), leaf(0, 1, 185, 188), leaf(5, 14, 17, 28), leaf(3, 8, 5, 8), leaf(7, 16, 9, 16),
		leaf(1, 255, 2, 255), leaf(1, 511, 2, 511), leaf(1, 1023, 2, 1023), leaf(1, 2047, 2, 2047), leaf(1, 4095, 2, 4095), leaf(2047, 4095, 2048, 4095), leaf(125, 256, 131, 256),
	)
}

func TestLaminationOf(t *testing.T) {
	rabbit, basilica := leaf(1, 7, 2, 7), leaf(1, 3, 2, 3)
	for _, c := range []struct {
		m    impl.Leaf
		k    int64
		want []impl.Leaf
	}{
		{rabbit, 0, []impl.Leaf{leaf(1, 14, 9, 14), leaf(1, 7, 2, 7), leaf(1, 7, 4, 7), leaf(2, 7, 4, 7)}},
		{rabbit, 1, []impl.Leaf{leaf(1, 28, 23, 28), leaf(1, 14, 9, 14), leaf(1, 14, 11, 14), leaf(1, 7, 2, 7), leaf(1, 7, 4, 7), leaf(2, 7, 4, 7), leaf(9, 28, 15, 28), leaf(9, 14, 11, 14)}},
		// A minor leaf that is its own image.
		{basilica, 0, []impl.Leaf{leaf(1, 6, 5, 6), leaf(1, 3, 2, 3)}},
		{basilica, 1, []impl.Leaf{leaf(1, 12, 11, 12), leaf(1, 6, 5, 6), leaf(1, 3, 2, 3), leaf(5, 12, 7, 12)}},
		{basilica, 2, []impl.Leaf{leaf(1, 24, 23, 24), leaf(1, 12, 11, 12), leaf(1, 6, 5, 6), leaf(5, 24, 7, 24), leaf(1, 3, 2, 3), leaf(5, 12, 7, 12), leaf(11, 24, 13, 24), leaf(17, 24, 19, 24)}},
		// The images end with a diameter, one half of which is joined to the greater half of the other.
		{leaf(3, 8, 5, 8), 0, []impl.Leaf{leaf(3, 16, 13, 16), leaf(1, 4, 3, 4), leaf(5, 16, 11, 16), leaf(3, 8, 5, 8)}},
		{leaf(1, 8, 7, 8), 0, []impl.Leaf{leaf(1, 16, 15, 16), leaf(1, 8, 7, 8), leaf(1, 4, 3, 4), leaf(7, 16, 9, 16)}},
		{leaf(1, 8, 7, 8), 1, []impl.Leaf{leaf(1, 32, 31, 32), leaf(1, 16, 15, 16), leaf(1, 8, 7, 8), leaf(1, 4, 3, 4), leaf(3, 8, 5, 8), leaf(7, 16, 9, 16), leaf(15, 32, 17, 32)}},
	} {
		got, code := impl.LaminationOf(c.m, c.k)
		checkLeaves(t, fmt.Sprintf("LaminationOf(%v, %d)", c.m, c.k), got, code, c.want, impl.ErrNone)
	}
}

func TestCountByDepth(t *testing.T) {
	for _, c := range []struct {
		m    impl.Leaf
		want []int64
	}{
		{leaf(1, 7, 2, 7), []int64{4, 8, 16, 32, 64, 128}}, {leaf(1, 3, 2, 3), []int64{2, 4, 8, 16, 32, 64, 128}}, {leaf(2, 5, 3, 5), []int64{3, 6, 12, 24, 48, 96, 192}},
		{leaf(13, 31, 18, 31), []int64{6, 12, 24, 48, 96, 192}}, {leaf(5, 12, 7, 12), []int64{5, 10, 20, 40, 80, 160}}, {leaf(1, 15, 2, 15), []int64{5, 10, 20, 40, 80, 160}},
		// Some leaves that arise cross others, and are left out.
		{leaf(3, 8, 5, 8), []int64{4, 9, 17, 27, 39, 53, 69}}, {leaf(5, 14, 17, 28), []int64{4, 9, 17, 31, 57, 107}}, {leaf(1, 8, 7, 8), []int64{4, 7, 9, 11, 13, 15, 17}}, {leaf(1, 16, 15, 16), []int64{5, 9, 11, 13, 15, 17, 19}},
	} {
		for k := range c.want {
			got, code := impl.CountByDepth(c.m, int64(k))
			checkNumbers(t, fmt.Sprintf("CountByDepth(%v, %d)", c.m, k), got, code, c.want[:k+1], impl.ErrNone)
		}
		if k := int64(len(c.want)); k <= 6 {
			got, code := impl.CountByDepth(c.m, k)
			checkNumbers(t, fmt.Sprintf("CountByDepth(%v, %d)", c.m, k), got, code, nil, impl.ErrLimit)
		}
	}
}

// TestLimitsOfLaminations asks for the last depth without an error, and for the next one.
func TestLimitsOfLaminations(t *testing.T) {
	for _, c := range []struct {
		m     impl.Leaf
		depth int64
		count int
	}{
		// The next depth has more than MaxLeaves leaves: 201 of them at least, and 400 at most.
		{leaf(48, 97, 49, 97), 3, 200}, {leaf(281, 564, 283, 564), 2, 200}, {leaf(0, 1, 64, 65), 5, 200}, {leaf(0, 1, 185, 188), 3, 114}, {leaf(50, 101, 51, 101), 1, 102}, {leaf(1, 7, 2, 7), 5, 128},
		// The next depth has halves with a Den greater than MaxDen.
		{leaf(1, 1023, 2, 1023), 2, 44}, {leaf(1, 2047, 2, 2047), 1, 24}, {leaf(1, 4095, 2, 4095), 0, 13}, {leaf(1, 511, 2, 511), 3, 80}, {leaf(125, 256, 131, 256), 3, 77}, {leaf(511, 1024, 513, 1024), 1, 23},
	} {
		got, code := impl.LaminationOf(c.m, c.depth)
		if len(got) != c.count || code != impl.ErrNone || !impl.IsLamination(got) {
			t.Errorf("LaminationOf(%v, %d): %d leaves, code %d; want %d", c.m, c.depth, len(got), code, c.count)
		}
		for k := c.depth + 1; k <= 6; k++ {
			got, code := impl.LaminationOf(c.m, k)
			checkLeaves(t, fmt.Sprintf("LaminationOf(%v, %d)", c.m, k), got, code, nil, impl.ErrLimit)
			counts, code := impl.CountByDepth(c.m, k)
			checkNumbers(t, fmt.Sprintf("CountByDepth(%v, %d)", c.m, k), counts, code, nil, impl.ErrLimit)
		}
	}
	if list, _ := growByHand(leaf(0, 1, 185, 188), 4, 400); len(list) != 5 || len(list[4]) != 201 {
		t.Errorf("no sample passes the limit by one: %d laminations", len(list))
	}
}

// TestLaminationsByHand holds laminations, and the numbers of their leaves, against those found
// without the program.
func TestLaminationsByHand(t *testing.T) {
	count := map[int64]int{}
	for _, m := range grownSamples() {
		list, beyond := growByHand(m, 6, 200)
		counts := []int64{}
		for k := range int64(7) {
			want, wantCounts, wantCode := []impl.Leaf(nil), []int64(nil), beyond
			if k < int64(len(list)) {
				counts = append(counts, int64(len(list[k])))
				want, wantCounts, wantCode = list[k], counts, impl.ErrNone
			}
			got, code := impl.LaminationOf(m, k)
			if !slices.Equal(got, want) || code != wantCode {
				t.Errorf("LaminationOf(%v, %d): got %s, %d; want %s, %d", m, k, brief(got), code, brief(want), wantCode)
			}
			gotCounts, code := impl.CountByDepth(m, k)
			checkNumbers(t, fmt.Sprintf("CountByDepth(%v, %d)", m, k), gotCounts, code, wantCounts, wantCode)
			count[code]++
		}
	}
	if count[impl.ErrNone] < 150 || count[impl.ErrLimit] < 50 {
		t.Errorf("the codes are %v", count)
	}
}

// checkNoLamination checks that both functions return a code for a leaf and a depth.
func checkNoLamination(t *testing.T, m impl.Leaf, k int64, want int64) {
	t.Helper()
	list, code := impl.LaminationOf(m, k)
	checkLeaves(t, fmt.Sprintf("LaminationOf(%v, %d)", m, k), list, code, nil, want)
	counts, code := impl.CountByDepth(m, k)
	checkNumbers(t, fmt.Sprintf("CountByDepth(%v, %d)", m, k), counts, code, nil, want)
}

func TestErrorsOfLaminationOf(t *testing.T) {
	tooMuch := []impl.Leaf{leaf(0, 1, 1, 1282), leaf(0, 1, 1281, 1282), leaf(1, 8191, 2, 8191), leaf(2, 8191, 4, 8191), leaf(1, 4096, 4095, 4096), leaf(1, 8179, 2, 8179)}
	notMinor := notMinorSamples()
	for k := range int64(7) {
		for _, list := range notMinor {
			for _, m := range list {
				checkNoLamination(t, m, k, impl.ErrState)
			}
		}
		// ErrLimit for the images and the majors of m comes ahead of ErrState, but not if m is too long.
		for _, m := range tooMuch {
			checkNoLamination(t, m, k, impl.ErrLimit)
		}
		for _, m := range []impl.Leaf{leaf(0, 1, 643, 1282), leaf(0, 1, 2731, 8191), leaf(1, 4096, 2049, 4096), leaf(1, 8179, 1, 2)} {
			checkNoLamination(t, m, k, impl.ErrState)
		}
		for _, bad := range notLeaves() {
			checkNoLamination(t, bad, k, impl.ErrInvalid)
		}
	}
	for _, k := range notDepths() {
		// A depth that is not in its range comes ahead of a leaf that is not minor, and of all limits.
		for _, m := range slices.Concat(grownSamples(), tooMuch, notMinor[1], notMinor[2], notMinor[3], notMinor[4]) {
			checkNoLamination(t, m, k, impl.ErrRange)
		}
		for _, bad := range notLeaves() {
			checkNoLamination(t, bad, k, impl.ErrInvalid)
		}
	}
}

func TestEndClasses(t *testing.T) {
	a, b, c, d := angle(1, 7), angle(2, 7), angle(4, 7), angle(6, 7)
	for _, x := range []struct {
		list []impl.Leaf
		want [][]impl.Angle
	}{
		{nil, nil}, {[]impl.Leaf{}, nil}, {[]impl.Leaf{leaf(1, 7, 2, 7)}, [][]impl.Angle{{a, b}}}, {[]impl.Leaf{leaf(0, 1, 8190, 8191)}, [][]impl.Angle{{angle(0, 1), angle(8190, 8191)}}},
		{[]impl.Leaf{leaf(1, 14, 9, 14), leaf(1, 7, 2, 7), leaf(1, 7, 4, 7), leaf(2, 7, 4, 7)}, [][]impl.Angle{{angle(1, 14), angle(9, 14)}, {a, b, c}}},
		{[]impl.Leaf{leaf(1, 7, 2, 7), leaf(4, 7, 6, 7)}, [][]impl.Angle{{a, b}, {c, d}}}, {[]impl.Leaf{leaf(1, 7, 6, 7), leaf(2, 7, 4, 7)}, [][]impl.Angle{{a, d}, {b, c}}},
		// Leaves hang together by a First and by a Second, and by others between them.
		{[]impl.Leaf{leaf(1, 7, 2, 7), leaf(1, 7, 4, 7)}, [][]impl.Angle{{a, b, c}}}, {[]impl.Leaf{leaf(1, 7, 4, 7), leaf(2, 7, 4, 7)}, [][]impl.Angle{{a, b, c}}},
		{[]impl.Leaf{leaf(1, 7, 2, 7), leaf(2, 7, 4, 7), leaf(4, 7, 6, 7)}, [][]impl.Angle{{a, b, c, d}}}, {[]impl.Leaf{leaf(1, 7, 6, 7), leaf(2, 7, 4, 7), leaf(4, 7, 6, 7)}, [][]impl.Angle{{a, b, c, d}}},
		{[]impl.Leaf{leaf(0, 1, 6, 7), leaf(1, 7, 2, 7), leaf(4, 7, 6, 7)}, [][]impl.Angle{{angle(0, 1), c, d}, {a, b}}}, {fan(200), [][]impl.Angle{corners401(201)}},
	} {
		got, code := impl.EndClasses(x.list)
		checkGaps(t, fmt.Sprintf("EndClasses(%s)", brief(x.list)), got, code, x.want, impl.ErrNone)
	}
	for _, bad := range notLaminations() {
		got, code := impl.EndClasses(bad)
		checkGaps(t, fmt.Sprintf("EndClasses(%s)", brief(bad)), got, code, nil, impl.ErrInvalid)
	}
}

// corners401 returns the first n angles k/401, in order.
func corners401(n int64) []impl.Angle {
	list := []impl.Angle{}
	for k := range n {
		list = append(list, reduced(k, 401))
	}
	return list
}

// chain returns the lamination with 200 leaves of which each hangs on the next one, in zigzag.
func chain() []impl.Leaf {
	list := []impl.Leaf{}
	for k := range int64(100) {
		list = append(list, joined(reduced(k, 401), reduced(400-k, 401)), joined(reduced(400-k, 401), reduced(k+1, 401)))
	}
	slices.SortFunc(list, orderLeavesByHand)
	return list
}

// sampleLaminations returns laminations of all kinds: small ones, large ones, and those of minor
// leaves.
func sampleLaminations() [][]impl.Leaf {
	list := slices.Concat(laminationsOf(sixPoints()), largeLaminations(), [][]impl.Leaf{chain()})
	for _, m := range minorSamples() {
		grown, _ := growByHand(m, 4, 200)
		for _, leaves := range grown {
			for i := range leaves {
				list = append(list, slices.Delete(slices.Clone(leaves), i, i+1))
			}
		}
		list = append(list, grown...)
	}
	return list
}

// TestListsByHand holds classes, whether lists are carried, and longest leaves against those found
// without the program.
func TestListsByHand(t *testing.T) {
	carried := map[bool]int{}
	for _, list := range sampleLaminations() {
		classes, code := impl.EndClasses(list)
		checkGaps(t, fmt.Sprintf("EndClasses(%s)", brief(list)), classes, code, classesByHand(list), impl.ErrNone)
		is, code := impl.IsCarried(list)
		checkAnswer(t, fmt.Sprintf("IsCarried(%s)", brief(list)), is, code, isCarriedByHand(list), impl.ErrNone)
		carried[is]++
		if len(list) == 0 {
			continue
		}
		longest, code := impl.LongestLeaf(list)
		checkLeaf(t, fmt.Sprintf("LongestLeaf(%s)", brief(list)), longest, code, longestByHand(list), impl.ErrNone)
	}
	if carried[true] < 100 || carried[false] < 1000 {
		t.Errorf("the answers are %v", carried)
	}
}

// longestByHand returns the first leaf of a list than which no other one is longer.
func longestByHand(list []impl.Leaf) impl.Leaf {
	longest := list[len(list)-1]
	for i := len(list) - 2; i >= 0; i-- {
		if lengthByHand(list[i]).Cmp(lengthByHand(longest)) >= 0 {
			longest = list[i]
		}
	}
	return longest
}

func TestIsCarried(t *testing.T) {
	rabbit := []impl.Leaf{leaf(1, 14, 9, 14), leaf(1, 7, 2, 7), leaf(1, 7, 4, 7), leaf(2, 7, 4, 7)}
	for _, c := range []struct {
		list []impl.Leaf
		want bool
	}{
		{nil, true}, {[]impl.Leaf{}, true}, {rabbit, true}, {rabbit[1:], true}, {rabbit[:3], false}, {rabbit[:2], false}, {rabbit[2:], false}, {rabbit[:1], false},
		// A leaf that is its own image, and diameters, which need no image.
		{[]impl.Leaf{leaf(1, 3, 2, 3)}, true}, {[]impl.Leaf{leaf(1, 6, 5, 6), leaf(1, 3, 2, 3)}, true}, {[]impl.Leaf{leaf(1, 6, 5, 6)}, false}, {[]impl.Leaf{leaf(0, 1, 1, 2)}, true},
		{[]impl.Leaf{leaf(1, 8190, 2048, 4095)}, true}, {[]impl.Leaf{leaf(0, 1, 1, 4), leaf(0, 1, 1, 2)}, true}, {[]impl.Leaf{leaf(0, 1, 1, 4)}, false}, {[]impl.Leaf{leaf(0, 1, 1, 8), leaf(0, 1, 1, 2)}, false},
		{[]impl.Leaf{leaf(1, 5, 4, 5), leaf(2, 5, 3, 5)}, true}, {[]impl.Leaf{leaf(1, 5, 4, 5)}, false}, {[]impl.Leaf{leaf(2, 5, 3, 5)}, false}, {fan(200), false}, {[]impl.Leaf{leaf(1, 8191, 2, 8191)}, false},
	} {
		got, code := impl.IsCarried(c.list)
		checkAnswer(t, fmt.Sprintf("IsCarried(%s)", brief(c.list)), got, code, c.want, impl.ErrNone)
	}
	for _, bad := range notLaminations() {
		got, code := impl.IsCarried(bad)
		checkAnswer(t, fmt.Sprintf("IsCarried(%s)", brief(bad)), got, code, false, impl.ErrInvalid)
	}
}

func TestLongestLeaf(t *testing.T) {
	for _, c := range []struct {
		list []impl.Leaf
		want impl.Leaf
	}{
		{[]impl.Leaf{leaf(1, 14, 9, 14), leaf(1, 7, 2, 7), leaf(1, 7, 4, 7), leaf(2, 7, 4, 7)}, leaf(1, 14, 9, 14)}, {[]impl.Leaf{leaf(1, 7, 2, 7)}, leaf(1, 7, 2, 7)}, {fan(200), leaf(0, 1, 200, 401)},
		{[]impl.Leaf{leaf(0, 1, 8190, 8191), leaf(1, 7, 2, 7), leaf(3, 7, 4, 7)}, leaf(1, 7, 2, 7)}, {[]impl.Leaf{leaf(0, 1, 2, 3), leaf(1, 3, 2, 3)}, leaf(0, 1, 2, 3)}, {teeth(200), leaf(1, 401, 2, 401)},
		{[]impl.Leaf{leaf(0, 1, 6, 7), leaf(1, 7, 3, 7)}, leaf(1, 7, 3, 7)}, {[]impl.Leaf{leaf(0, 1, 1, 2), leaf(0, 1, 6, 7)}, leaf(0, 1, 1, 2)}, {ladder(200), leaf(100, 401, 301, 401)},
		// Lengths whose Den no angle has are compared, too.
		{[]impl.Leaf{leaf(1, 8191, 1, 8190), leaf(1, 8189, 1, 8188)}, leaf(1, 8189, 1, 8188)}, {[]impl.Leaf{leaf(1, 8191, 1, 8189), leaf(1, 8191, 1, 8188)}, leaf(1, 8191, 1, 8188)},
		{[]impl.Leaf{leaf(0, 1, 2047, 4095), leaf(0, 1, 4096, 8191)}, leaf(0, 1, 4096, 8191)}, {[]impl.Leaf{leaf(1, 8191, 4096, 8191), leaf(4096, 8191, 8190, 8191)}, leaf(1, 8191, 4096, 8191)},
	} {
		got, code := impl.LongestLeaf(c.list)
		checkLeaf(t, fmt.Sprintf("LongestLeaf(%s)", brief(c.list)), got, code, c.want, impl.ErrNone)
	}
	for _, empty := range [][]impl.Leaf{nil, {}} {
		got, code := impl.LongestLeaf(empty)
		checkLeaf(t, "LongestLeaf of nothing", got, code, impl.Leaf{}, impl.ErrState)
	}
	for _, bad := range notLaminations() {
		got, code := impl.LongestLeaf(bad)
		checkLeaf(t, fmt.Sprintf("LongestLeaf(%s)", brief(bad)), got, code, impl.Leaf{}, impl.ErrInvalid)
	}
}

// TestListsOfChapter5AreLeftUnchanged checks lists and the room behind them, also when what has been
// returned is written into.
func TestListsOfChapter5AreLeftUnchanged(t *testing.T) {
	for _, list := range slices.Concat(laminationsOf(sixPoints()[:4]), largeLaminations(), notLaminations()) {
		given, whole := roomy(list, leaf(3, 7, 1, 7))
		before := slices.Clone(whole)
		classes, _ := impl.EndClasses(given)
		for _, class := range classes {
			overwrite(class, angle(5, 7))
		}
		impl.IsCarried(given)
		impl.LongestLeaf(given)
		if !slices.Equal(whole, before) {
			t.Errorf("%s has been changed", brief(list))
		}
	}
}

// TestClassesShareNoMemory writes into each class, and into the room behind it, and looks at the
// others.
func TestClassesShareNoMemory(t *testing.T) {
	for _, list := range [][]impl.Leaf{nil, fan(3), ladder(5), teeth(200), filled(corners(20), 0, 7, 8), {leaf(1, 14, 9, 14), leaf(1, 7, 2, 7), leaf(1, 7, 4, 7)}} {
		got, _ := impl.EndClasses(list)
		want, _ := impl.EndClasses(list)
		for i := range got {
			overwrite(append(got[i], angle(3, 7))[:len(got[i])+1], angle(5, 7))
			overwrite(got[i], angle(5, 7))
			want[i] = got[i]
			checkGaps(t, fmt.Sprintf("EndClasses(%s) with class %d written into", brief(list), i), got, impl.ErrNone, want, impl.ErrNone)
		}
	}
}

// TestLaminationsAreNew writes into results and into the room behind them, and asks again.
func TestLaminationsAreNew(t *testing.T) {
	for _, m := range minorSamples() {
		want, _ := growByHand(m, 1, 200)
		for range 2 {
			list, code := impl.LaminationOf(m, 1)
			checkLeaves(t, fmt.Sprintf("LaminationOf(%v, 1)", m), list, code, want[1], impl.ErrNone)
			overwrite(list, leaf(5, 7, 1, 7))
			counts, code := impl.CountByDepth(m, 1)
			checkNumbers(t, fmt.Sprintf("CountByDepth(%v, 1)", m), counts, code, []int64{int64(len(want[0])), int64(len(want[1]))}, impl.ErrNone)
			overwrite(counts, -1)
		}
	}
}
