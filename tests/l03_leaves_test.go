package tests

import (
	"fmt"
	"slices"
	"testing"

	"loop.example/g01234/impl"
)

func TestConstantsOfChapter3(t *testing.T) {
	if impl.MaxLeaves != 200 {
		t.Errorf("the limit is %d", impl.MaxLeaves)
	}
}

func TestIsLeaf(t *testing.T) {
	for _, l := range append(leavesUpTo(12), farLeaves()...) {
		if !impl.IsLeaf(l) {
			t.Errorf("%v is no leaf", l)
		}
	}
	for _, l := range notLeaves() {
		if impl.IsLeaf(l) {
			t.Errorf("%v is a leaf", l)
		}
	}
	for _, a := range anglesUpTo(12) {
		for _, b := range anglesUpTo(12) {
			if got, want := impl.IsLeaf(impl.Leaf{First: a, Second: b}), orderByHand(a, b) < 0; got != want {
				t.Errorf("IsLeaf of %v and %v: got %v, want %v", a, b, got, want)
			}
		}
	}
}

func TestLeafOf(t *testing.T) {
	for _, l := range append(leavesUpTo(12), farLeaves()...) {
		got, code := impl.LeafOf(l.First, l.Second)
		checkLeaf(t, fmt.Sprintf("LeafOf(%v, %v)", l.First, l.Second), got, code, l, impl.ErrNone)
		got, code = impl.LeafOf(l.Second, l.First)
		checkLeaf(t, fmt.Sprintf("LeafOf(%v, %v)", l.Second, l.First), got, code, l, impl.ErrNone)
	}
	for _, a := range append(anglesUpTo(12), angle(1, 8191), angle(8190, 8191)) {
		got, code := impl.LeafOf(a, a)
		checkLeaf(t, fmt.Sprintf("LeafOf(%v, %v)", a, a), got, code, impl.Leaf{}, impl.ErrState)
	}
	for _, bad := range notAngles() {
		for _, other := range []impl.Angle{angle(0, 1), angle(8190, 8191), bad} {
			got, code := impl.LeafOf(bad, other)
			checkLeaf(t, fmt.Sprintf("LeafOf(%v, %v)", bad, other), got, code, impl.Leaf{}, impl.ErrInvalid)
			got, code = impl.LeafOf(other, bad)
			checkLeaf(t, fmt.Sprintf("LeafOf(%v, %v)", other, bad), got, code, impl.Leaf{}, impl.ErrInvalid)
		}
	}
}

func TestLeafLength(t *testing.T) {
	for _, c := range []struct {
		l    impl.Leaf
		want impl.Angle
		code int64
	}{
		{leaf(1, 7, 6, 7), angle(2, 7), impl.ErrNone}, {leaf(1, 7, 2, 7), angle(1, 7), impl.ErrNone}, {leaf(0, 1, 1, 2), angle(1, 2), impl.ErrNone},
		{leaf(1, 3, 5, 6), angle(1, 2), impl.ErrNone}, {leaf(0, 1, 2, 3), angle(1, 3), impl.ErrNone}, {leaf(1, 4, 1, 3), angle(1, 12), impl.ErrNone},
		{leaf(1, 6, 2, 3), angle(1, 2), impl.ErrNone}, {leaf(1, 6, 5, 6), angle(1, 3), impl.ErrNone}, {leaf(1, 15, 2, 3), angle(2, 5), impl.ErrNone},
		// Lengths can have a Den up to MaxDen, which is that of a sum.
		{leaf(0, 1, 1, 8191), angle(1, 8191), impl.ErrNone}, {leaf(0, 1, 8190, 8191), angle(1, 8191), impl.ErrNone}, {leaf(1, 8191, 8190, 8191), angle(2, 8191), impl.ErrNone},
		{leaf(1, 91, 1, 90), angle(1, 8190), impl.ErrNone}, {leaf(1, 4095, 1, 2), angle(4093, 8190), impl.ErrNone}, {leaf(1, 8190, 2048, 4095), angle(1, 2), impl.ErrNone},
		{leaf(1, 8191, 1, 8190), angle(0, 0), impl.ErrLimit}, {leaf(1, 4096, 1, 3), angle(0, 0), impl.ErrLimit}, {leaf(4095, 8191, 1, 2), angle(0, 0), impl.ErrLimit},
		{leaf(1, 8179, 8190, 8191), angle(0, 0), impl.ErrLimit}, {leaf(1, 4097, 1, 2), angle(0, 0), impl.ErrLimit}, {leaf(1, 4096, 1, 4095), angle(0, 0), impl.ErrLimit},
	} {
		got, code := impl.LeafLength(c.l)
		checkAngle(t, fmt.Sprintf("LeafLength(%v)", c.l), got, code, c.want, c.code)
	}
	for _, l := range leavesUpTo(15) {
		num, den := l.Second.Num*l.First.Den-l.First.Num*l.Second.Den, l.First.Den*l.Second.Den
		got, code := impl.LeafLength(l)
		checkAngle(t, fmt.Sprintf("LeafLength(%v)", l), got, code, reduced(min(num, den-num), den), impl.ErrNone)
	}
	for _, bad := range notLeaves() {
		got, code := impl.LeafLength(bad)
		checkAngle(t, fmt.Sprintf("LeafLength(%v)", bad), got, code, angle(0, 0), impl.ErrInvalid)
	}
}

func TestDoLeavesCross(t *testing.T) {
	for _, c := range []struct {
		l, m impl.Leaf
		want bool
	}{
		{leaf(1, 7, 3, 7), leaf(2, 7, 4, 7), true}, {leaf(1, 7, 2, 7), leaf(2, 7, 4, 7), false}, {leaf(0, 1, 1, 2), leaf(1, 4, 3, 4), true},
		// Leaves beside each other, inside each other, with a common end, and the same one.
		{leaf(1, 7, 2, 7), leaf(3, 7, 4, 7), false}, {leaf(1, 7, 4, 7), leaf(2, 7, 3, 7), false}, {leaf(1, 7, 3, 7), leaf(1, 7, 2, 7), false},
		{leaf(1, 7, 3, 7), leaf(1, 7, 4, 7), false}, {leaf(1, 7, 3, 7), leaf(2, 7, 3, 7), false}, {leaf(1, 7, 3, 7), leaf(0, 1, 3, 7), false},
		{leaf(1, 7, 3, 7), leaf(0, 1, 1, 7), false}, {leaf(1, 7, 3, 7), leaf(3, 7, 1, 2), false}, {leaf(1, 7, 3, 7), leaf(1, 7, 3, 7), false},
		{leaf(0, 1, 8190, 8191), leaf(8189, 8191, 8189, 8190), false}, {leaf(0, 1, 8189, 8190), leaf(8189, 8191, 8190, 8191), true},
		{leaf(1, 8191, 1, 8190), leaf(1, 8189, 8190, 8191), false}, {leaf(1, 8191, 1, 8189), leaf(1, 8190, 8190, 8191), true},
	} {
		got, code := impl.DoLeavesCross(c.l, c.m)
		checkAnswer(t, fmt.Sprintf("DoLeavesCross(%v, %v)", c.l, c.m), got, code, c.want, impl.ErrNone)
	}
}

// TestCrossingsByHand holds crossings against the places of the ends, and checks that they do not
// depend on the order.
func TestCrossingsByHand(t *testing.T) {
	count := map[bool]int{}
	for _, list := range [][]impl.Leaf{leavesUpTo(7), farLeaves(), leavesOf(sixPoints())} {
		for _, l := range list {
			for _, m := range list {
				got, code := impl.DoLeavesCross(l, m)
				checkAnswer(t, fmt.Sprintf("DoLeavesCross(%v, %v)", l, m), got, code, crossByHand(l, m), impl.ErrNone)
				back, code := impl.DoLeavesCross(m, l)
				checkAnswer(t, fmt.Sprintf("DoLeavesCross(%v, %v)", m, l), back, code, got, impl.ErrNone)
				count[got]++
			}
		}
	}
	if count[true] < 1000 || count[false] < 1000 {
		t.Errorf("the answers are %v", count)
	}
}

func TestErrorsOfDoLeavesCross(t *testing.T) {
	for _, bad := range notLeaves() {
		for _, other := range []impl.Leaf{leaf(0, 1, 1, 2), leaf(1, 8191, 1, 8190), bad} {
			got, code := impl.DoLeavesCross(bad, other)
			checkAnswer(t, fmt.Sprintf("DoLeavesCross(%v, %v)", bad, other), got, code, false, impl.ErrInvalid)
			got, code = impl.DoLeavesCross(other, bad)
			checkAnswer(t, fmt.Sprintf("DoLeavesCross(%v, %v)", other, bad), got, code, false, impl.ErrInvalid)
		}
	}
}

// imageByHand returns the image of a leaf that is no diameter, found without the program.
func imageByHand(l impl.Leaf) impl.Leaf {
	return joined(reduced(2*l.First.Num, l.First.Den), reduced(2*l.Second.Num, l.Second.Den))
}

func TestImageOfLeaf(t *testing.T) {
	for _, c := range [][2]impl.Leaf{
		{leaf(1, 7, 2, 7), leaf(2, 7, 4, 7)}, {leaf(2, 7, 4, 7), leaf(1, 7, 4, 7)}, {leaf(1, 3, 2, 3), leaf(1, 3, 2, 3)},
		{leaf(0, 1, 1, 4), leaf(0, 1, 1, 2)}, {leaf(1, 4, 1, 2), leaf(0, 1, 1, 2)}, {leaf(1, 6, 5, 6), leaf(1, 3, 2, 3)},
		{leaf(1, 2, 8190, 8191), leaf(0, 1, 8189, 8191)}, {leaf(4095, 8191, 4096, 8191), leaf(1, 8191, 8190, 8191)}, {leaf(1, 8190, 1, 8188), leaf(1, 4095, 1, 4094)},
	} {
		got, code := impl.ImageOfLeaf(c[0])
		checkLeaf(t, fmt.Sprintf("ImageOfLeaf(%v)", c[0]), got, code, c[1], impl.ErrNone)
	}
	diameters := 0
	for _, l := range append(leavesUpTo(16), farLeaves()...) {
		got, code := impl.ImageOfLeaf(l)
		if halfTurnApart(l) {
			diameters++
			checkLeaf(t, fmt.Sprintf("ImageOfLeaf(%v)", l), got, code, impl.Leaf{}, impl.ErrState)
		} else {
			checkLeaf(t, fmt.Sprintf("ImageOfLeaf(%v)", l), got, code, imageByHand(l), impl.ErrNone)
		}
	}
	if diameters < 20 {
		t.Errorf("only %d diameters are among the samples", diameters)
	}
	for _, bad := range notLeaves() {
		got, code := impl.ImageOfLeaf(bad)
		checkLeaf(t, fmt.Sprintf("ImageOfLeaf(%v)", bad), got, code, impl.Leaf{}, impl.ErrInvalid)
	}
}

// halvesByHand returns both halves of an angle, found without the program; their Den may be too
// great.
func halvesByHand(a impl.Angle) [2]impl.Angle {
	return [2]impl.Angle{reduced(a.Num, 2*a.Den), reduced(a.Num+a.Den, 2*a.Den)}
}

// pulledByHand returns the leaves that arise when l is pulled back past d: of both ways to join the
// halves of its ends, the one in which nothing crosses d. Their ends may have a Den that is too
// great.
func pulledByHand(l, d impl.Leaf) []impl.Leaf {
	first, second := halvesByHand(l.First), halvesByHand(l.Second)
	for _, way := range [][]impl.Leaf{
		{joined(first[0], second[0]), joined(first[1], second[1])},
		{joined(first[0], second[1]), joined(first[1], second[0])},
	} {
		if !crossByHand(way[0], d) && !crossByHand(way[1], d) {
			slices.SortFunc(way, orderLeavesByHand)
			return way
		}
	}
	return nil
}

func TestPullBackPast(t *testing.T) {
	half := leaf(0, 1, 1, 2)
	for _, c := range []struct {
		l, d impl.Leaf
		want []impl.Leaf
		code int64
	}{
		{leaf(1, 3, 2, 3), half, []impl.Leaf{leaf(1, 6, 1, 3), leaf(2, 3, 5, 6)}, impl.ErrNone},
		{leaf(1, 3, 2, 3), leaf(1, 4, 3, 4), []impl.Leaf{leaf(1, 6, 5, 6), leaf(1, 3, 2, 3)}, impl.ErrNone},
		{leaf(1, 7, 2, 7), leaf(1, 12, 7, 12), []impl.Leaf{leaf(1, 14, 9, 14), leaf(1, 7, 4, 7)}, impl.ErrNone},
		{leaf(1, 7, 2, 7), half, []impl.Leaf{leaf(1, 14, 1, 7), leaf(4, 7, 9, 14)}, impl.ErrNone},
		{leaf(0, 1, 1, 2), leaf(1, 8, 5, 8), []impl.Leaf{leaf(0, 1, 3, 4), leaf(1, 4, 1, 2)}, impl.ErrNone},
		{leaf(0, 1, 1, 2), leaf(3, 8, 7, 8), []impl.Leaf{leaf(0, 1, 1, 4), leaf(1, 2, 3, 4)}, impl.ErrNone},
		// No diameter, and a diameter with an end whose double is an end of l.
		{leaf(1, 3, 2, 3), leaf(0, 1, 1, 3), nil, impl.ErrState}, {leaf(1, 3, 2, 3), leaf(1, 3, 2, 3), nil, impl.ErrState},
		{leaf(1, 3, 2, 3), leaf(1, 6, 2, 3), nil, impl.ErrState}, {leaf(1, 3, 2, 3), leaf(1, 3, 5, 6), nil, impl.ErrState},
		{leaf(0, 1, 1, 7), half, nil, impl.ErrState}, {leaf(0, 1, 1, 2), half, nil, impl.ErrState}, {leaf(0, 1, 1, 2), leaf(1, 4, 3, 4), nil, impl.ErrState},
		{leaf(1, 7, 2, 7), leaf(0, 1, 4095, 8191), nil, impl.ErrState}, {leaf(1, 7, 2, 7), leaf(1, 8191, 4096, 8191), nil, impl.ErrState},
	} {
		got, code := impl.PullBackPast(c.l, c.d)
		checkLeaves(t, fmt.Sprintf("PullBackPast(%v, %v)", c.l, c.d), got, code, c.want, c.code)
	}
}

// Halves of an angle have a Den of at most MaxDen if its own one is at most the half of it.
func TestLimitsOfPullBackPast(t *testing.T) {
	half, steep := leaf(0, 1, 1, 2), leaf(1, 8190, 2048, 4095)
	for _, c := range []struct {
		l, d impl.Leaf
		want []impl.Leaf
		code int64
	}{
		{leaf(1, 4095, 4094, 4095), half, []impl.Leaf{leaf(1, 8190, 2047, 4095), leaf(2048, 4095, 8189, 8190)}, impl.ErrNone},
		{leaf(1, 4094, 1, 3), half, []impl.Leaf{leaf(1, 8188, 1, 6), leaf(4095, 8188, 2, 3)}, impl.ErrNone},
		{leaf(0, 1, 1, 3), steep, []impl.Leaf{leaf(0, 1, 2, 3), leaf(1, 6, 1, 2)}, impl.ErrNone},
		{leaf(1, 4096, 1, 3), half, nil, impl.ErrLimit}, {leaf(1, 3, 4095, 4096), half, nil, impl.ErrLimit}, {leaf(2, 4097, 1, 3), half, nil, impl.ErrLimit},
		{leaf(1, 3, 4096, 4097), half, nil, impl.ErrLimit}, {leaf(1, 8191, 1, 8190), half, nil, impl.ErrLimit}, {leaf(2, 8191, 2, 3), half, nil, impl.ErrLimit},
		{leaf(1, 3, 8190, 8191), steep, nil, impl.ErrLimit},
		// ErrState comes ahead of ErrLimit.
		{leaf(0, 1, 1, 4096), half, nil, impl.ErrState}, {leaf(1, 8191, 1, 8190), leaf(1, 3, 1, 2), nil, impl.ErrState},
		{leaf(1, 4097, 4096, 4097), leaf(1, 4097, 2, 4097), nil, impl.ErrState}, {leaf(1, 4095, 1, 4094), steep, nil, impl.ErrState},
	} {
		got, code := impl.PullBackPast(c.l, c.d)
		checkLeaves(t, fmt.Sprintf("PullBackPast(%v, %v)", c.l, c.d), got, code, c.want, c.code)
	}
}

// TestPullBackPastByHand holds leaves that are pulled back against both ways to join halves.
func TestPullBackPastByHand(t *testing.T) {
	count := map[int64]int{}
	for _, d := range append(diametersUpTo(10), leaf(1, 8190, 2048, 4095)) {
		end := reduced(2*d.First.Num, d.First.Den)
		for _, l := range leavesUpTo(9) {
			got, code := impl.PullBackPast(l, d)
			count[code]++
			if end == l.First || end == l.Second {
				checkLeaves(t, fmt.Sprintf("PullBackPast(%v, %v)", l, d), got, code, nil, impl.ErrState)
			} else {
				checkLeaves(t, fmt.Sprintf("PullBackPast(%v, %v)", l, d), got, code, pulledByHand(l, d), impl.ErrNone)
			}
		}
	}
	if count[impl.ErrNone] < 1000 || count[impl.ErrState] < 100 {
		t.Errorf("the codes are %v", count)
	}
	for _, l := range leavesUpTo(6) {
		for _, d := range leavesUpTo(6) {
			if !halfTurnApart(d) {
				got, code := impl.PullBackPast(l, d)
				checkLeaves(t, fmt.Sprintf("PullBackPast(%v, %v)", l, d), got, code, nil, impl.ErrState)
			}
		}
	}
}

func TestErrorsOfPullBackPast(t *testing.T) {
	for _, bad := range notLeaves() {
		// What is no leaf comes ahead of a leaf that is no diameter, and of a Den that is too great.
		for _, other := range []impl.Leaf{leaf(0, 1, 1, 2), leaf(1, 3, 2, 3), leaf(1, 8191, 1, 8190), bad} {
			got, code := impl.PullBackPast(bad, other)
			checkLeaves(t, fmt.Sprintf("PullBackPast(%v, %v)", bad, other), got, code, nil, impl.ErrInvalid)
			got, code = impl.PullBackPast(other, bad)
			checkLeaves(t, fmt.Sprintf("PullBackPast(%v, %v)", other, bad), got, code, nil, impl.ErrInvalid)
		}
	}
}

// imagesByHand returns a leaf, its image, and so on, each once, up to a diameter or the last one
// that is new.
func imagesByHand(l impl.Leaf) []impl.Leaf {
	list := []impl.Leaf{}
	met := map[impl.Leaf]bool{}
	for !met[l] {
		met[l] = true
		list = append(list, l)
		if halfTurnApart(l) {
			break
		}
		l = imageByHand(l)
	}
	return list
}

func TestImagesOfLeaf(t *testing.T) {
	for _, c := range []struct {
		l    impl.Leaf
		want []impl.Leaf
	}{
		{leaf(1, 7, 2, 7), []impl.Leaf{leaf(1, 7, 2, 7), leaf(2, 7, 4, 7), leaf(1, 7, 4, 7)}},
		{leaf(1, 3, 2, 3), []impl.Leaf{leaf(1, 3, 2, 3)}},
		{leaf(1, 5, 4, 5), []impl.Leaf{leaf(1, 5, 4, 5), leaf(2, 5, 3, 5)}},
		{leaf(1, 6, 5, 6), []impl.Leaf{leaf(1, 6, 5, 6), leaf(1, 3, 2, 3)}},
		{leaf(0, 1, 1, 2), []impl.Leaf{leaf(0, 1, 1, 2)}},
		{leaf(1, 14, 4, 7), []impl.Leaf{leaf(1, 14, 4, 7)}},
		{leaf(0, 1, 1, 8), []impl.Leaf{leaf(0, 1, 1, 8), leaf(0, 1, 1, 4), leaf(0, 1, 1, 2)}},
		{leaf(1, 12, 1, 3), []impl.Leaf{leaf(1, 12, 1, 3), leaf(1, 6, 2, 3)}},
		{leaf(1, 7, 1, 3), []impl.Leaf{leaf(1, 7, 1, 3), leaf(2, 7, 2, 3), leaf(1, 3, 4, 7), leaf(1, 7, 2, 3), leaf(2, 7, 1, 3), leaf(4, 7, 2, 3)}},
	} {
		got, code := impl.ImagesOfLeaf(c.l)
		checkLeaves(t, fmt.Sprintf("ImagesOfLeaf(%v)", c.l), got, code, c.want, impl.ErrNone)
	}
	for _, bad := range notLeaves() {
		got, code := impl.ImagesOfLeaf(bad)
		checkLeaves(t, fmt.Sprintf("ImagesOfLeaf(%v)", bad), got, code, nil, impl.ErrInvalid)
	}
}

// TestImagesOfLeafByHand holds images against those that are found without the program, up to
// MaxOrbit of them, and beyond.
func TestImagesOfLeafByHand(t *testing.T) {
	count := map[int]int{}
	for _, l := range append(append(leavesUpTo(14), farLeaves()...), leaf(1, 641, 2, 641), leaf(1, 1282, 640, 641), leaf(1, 641, 1, 2), leaf(1, 976, 15, 976)) {
		want := imagesByHand(l)
		count[len(want)]++
		got, code := impl.ImagesOfLeaf(l)
		if len(want) > 64 {
			checkLeaves(t, fmt.Sprintf("ImagesOfLeaf(%v)", l), got, code, nil, impl.ErrLimit)
		} else {
			checkLeaves(t, fmt.Sprintf("ImagesOfLeaf(%v)", l), got, code, want, impl.ErrNone)
		}
	}
	if count[64] == 0 || count[65] == 0 {
		t.Errorf("the numbers of images are %v", count)
	}
}
