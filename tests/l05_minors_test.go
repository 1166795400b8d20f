package tests

import (
	"fmt"
	"testing"

	"loop.example/g01234/impl"
)

func TestConstantsOfChapter5(t *testing.T) {
	if impl.MaxDepth != 6 {
		t.Errorf("the limit is %d", impl.MaxDepth)
	}
}

// minorSamples returns minor leaves of many kinds: with ends that come back, with ends that do not,
// with a diameter among the images, and with the angle 0 behind them or as an end.
func minorSamples() []impl.Leaf {
	return []impl.Leaf{
		leaf(1, 3, 2, 3), leaf(1, 7, 2, 7), leaf(3, 7, 4, 7), leaf(2, 5, 3, 5), leaf(1, 5, 4, 15), leaf(13, 31, 18, 31), leaf(10, 63, 17, 63), leaf(1, 127, 2, 127),
		leaf(5, 12, 7, 12), leaf(11, 28, 9, 14), leaf(13, 64, 17, 64), leaf(15, 32, 17, 32), leaf(9, 56, 2, 7), leaf(11, 56, 15, 56),
		leaf(1, 6, 5, 6), leaf(1, 8, 7, 8), leaf(1, 16, 15, 16), leaf(0, 1, 2, 3), leaf(0, 1, 3, 4), leaf(0, 1, 6, 7), leaf(1, 10, 9, 10), leaf(1, 12, 11, 12), leaf(0, 1, 640, 641),
	}
}

// notMinorSamples returns leaves that are not minor, by the first condition that does not hold.
func notMinorSamples() map[int64][]impl.Leaf {
	return map[int64][]impl.Leaf{
		1: {leaf(0, 1, 1, 2), leaf(1, 7, 4, 7), leaf(0, 1, 2730, 8189), leaf(1365, 4094, 1365, 2047), leaf(1, 8191, 2047, 4095), leaf(1, 4095, 683, 2047), leaf(1, 8179, 1, 2), leaf(2, 7, 2, 3)},
		2: {leaf(1, 7, 1, 3), leaf(1, 5, 2, 5), leaf(2, 7, 3, 7), leaf(4, 31, 7, 31), leaf(1, 255, 2, 257)},
		3: {leaf(2, 7, 4, 7), leaf(1, 7, 6, 7), leaf(2, 31, 4, 31), leaf(2, 15, 4, 15), leaf(1, 257, 1, 255)},
		4: {leaf(0, 1, 1, 3), leaf(0, 1, 1, 4), leaf(0, 1, 1, 8), leaf(1, 3, 5, 12), leaf(0, 1, 1, 641), leaf(109, 255, 110, 257)},
	}
}

func TestMajorsOf(t *testing.T) {
	for _, c := range []struct {
		m    impl.Leaf
		want []impl.Leaf
		code int64
	}{
		{leaf(1, 3, 2, 3), []impl.Leaf{leaf(1, 6, 5, 6), leaf(1, 3, 2, 3)}, impl.ErrNone}, {leaf(1, 7, 2, 7), []impl.Leaf{leaf(1, 14, 9, 14), leaf(1, 7, 4, 7)}, impl.ErrNone},
		{leaf(3, 7, 4, 7), []impl.Leaf{leaf(3, 14, 11, 14), leaf(2, 7, 5, 7)}, impl.ErrNone}, {leaf(2, 5, 3, 5), []impl.Leaf{leaf(1, 5, 4, 5), leaf(3, 10, 7, 10)}, impl.ErrNone},
		{leaf(5, 12, 7, 12), []impl.Leaf{leaf(5, 24, 19, 24), leaf(7, 24, 17, 24)}, impl.ErrNone}, {leaf(0, 1, 1, 4), []impl.Leaf{leaf(0, 1, 5, 8), leaf(1, 8, 1, 2)}, impl.ErrNone},
		// Majors need not be of a leaf that is minor.
		{leaf(2, 7, 4, 7), []impl.Leaf{leaf(1, 7, 11, 14), leaf(2, 7, 9, 14)}, impl.ErrNone}, {leaf(1, 7, 1, 3), []impl.Leaf{leaf(1, 14, 2, 3), leaf(1, 6, 4, 7)}, impl.ErrNone},
		// One goes forward through 0: half of an angle is its lesser half.
		{leaf(1, 7, 6, 7), []impl.Leaf{leaf(1, 14, 13, 14), leaf(3, 7, 4, 7)}, impl.ErrNone}, {leaf(1, 6, 5, 6), []impl.Leaf{leaf(1, 12, 11, 12), leaf(5, 12, 7, 12)}, impl.ErrNone},
		{leaf(0, 1, 2, 3), []impl.Leaf{leaf(0, 1, 5, 6), leaf(1, 3, 1, 2)}, impl.ErrNone}, {leaf(0, 1, 3, 4), []impl.Leaf{leaf(0, 1, 7, 8), leaf(3, 8, 1, 2)}, impl.ErrNone},
		// The length 1/3 exactly, just below and just above it.
		{leaf(0, 1, 1, 3), []impl.Leaf{leaf(0, 1, 2, 3), leaf(1, 6, 1, 2)}, impl.ErrNone}, {leaf(1, 4, 7, 12), []impl.Leaf{leaf(1, 8, 19, 24), leaf(7, 24, 5, 8)}, impl.ErrNone},
		{leaf(0, 1, 1364, 4093), []impl.Leaf{leaf(0, 1, 5457, 8186), leaf(682, 4093, 1, 2)}, impl.ErrNone}, {leaf(0, 1, 1365, 4093), nil, impl.ErrState}, {leaf(0, 1, 1365, 4094), nil, impl.ErrState},
		{leaf(0, 1, 2730, 8189), nil, impl.ErrState}, {leaf(0, 1, 5459, 8189), nil, impl.ErrState}, {leaf(1, 2, 2, 3), []impl.Leaf{leaf(1, 4, 5, 6), leaf(1, 3, 3, 4)}, impl.ErrNone},
		{leaf(1, 7, 4, 7), nil, impl.ErrState}, {leaf(0, 1, 1, 2), nil, impl.ErrState}, {leaf(1, 6, 2, 3), nil, impl.ErrState}, {leaf(1, 5, 3, 5), nil, impl.ErrState},
		// Lengths are numbers: a Den that no angle has is no reason for ErrLimit.
		{leaf(1, 4095, 1, 4094), []impl.Leaf{leaf(1, 8190, 4095, 8188), leaf(1, 8188, 2048, 4095)}, impl.ErrNone}, {leaf(1, 4095, 683, 2047), nil, impl.ErrState}, {leaf(1, 8191, 2047, 4095), nil, impl.ErrState},
	} {
		if wantLong := c.code == impl.ErrState; isLongByHand(c.m) != wantLong {
			t.Fatalf("%v is a wrong sample", c.m)
		}
		got, code := impl.MajorsOf(c.m)
		checkLeaves(t, fmt.Sprintf("MajorsOf(%v)", c.m), got, code, c.want, c.code)
	}
}

// Halves of an angle have a Den of at most MaxDen if its own one is at most the half of it.
func TestLimitsOfMajorsOf(t *testing.T) {
	for _, c := range []struct {
		m    impl.Leaf
		want []impl.Leaf
		code int64
	}{
		{leaf(1, 4095, 2, 4095), []impl.Leaf{leaf(1, 8190, 4097, 8190), leaf(1, 4095, 2048, 4095)}, impl.ErrNone},
		{leaf(1, 4095, 4094, 4095), []impl.Leaf{leaf(1, 8190, 8189, 8190), leaf(2047, 4095, 2048, 4095)}, impl.ErrNone},
		{leaf(1, 4096, 1, 3), nil, impl.ErrLimit}, {leaf(1, 3, 1367, 4096), nil, impl.ErrLimit}, {leaf(1, 3, 2048, 4097), nil, impl.ErrLimit}, {leaf(2, 4097, 1, 3), nil, impl.ErrLimit},
		{leaf(0, 1, 4096, 4097), nil, impl.ErrLimit}, {leaf(1, 8191, 2, 8191), nil, impl.ErrLimit}, {leaf(1, 8191, 1, 8190), nil, impl.ErrLimit}, {leaf(0, 1, 2730, 8191), nil, impl.ErrLimit},
		// ErrState comes ahead of ErrLimit.
		{leaf(0, 1, 2731, 8191), nil, impl.ErrState}, {leaf(1, 4096, 2049, 4096), nil, impl.ErrState}, {leaf(1, 4097, 1, 2), nil, impl.ErrState}, {leaf(1, 8191, 2732, 8191), nil, impl.ErrState},
	} {
		got, code := impl.MajorsOf(c.m)
		checkLeaves(t, fmt.Sprintf("MajorsOf(%v)", c.m), got, code, c.want, c.code)
	}
}

// TestMajorsByHand holds majors against those that are told by going forward from one end to the
// other one.
func TestMajorsByHand(t *testing.T) {
	count := map[int64]int{}
	for _, l := range append(leavesUpTo(16), farLeaves()...) {
		want, wantCode := majorsByHand(l), int64(impl.ErrNone)
		if isTooFine(want) {
			want, wantCode = nil, impl.ErrLimit
		}
		if isLongByHand(l) {
			want, wantCode = nil, impl.ErrState
		}
		got, code := impl.MajorsOf(l)
		checkLeaves(t, fmt.Sprintf("MajorsOf(%v)", l), got, code, want, wantCode)
		count[code]++
	}
	if count[impl.ErrNone] < 1000 || count[impl.ErrState] < 500 || count[impl.ErrLimit] < 5 {
		t.Errorf("the codes are %v", count)
	}
	for _, bad := range notLeaves() {
		got, code := impl.MajorsOf(bad)
		checkLeaves(t, fmt.Sprintf("MajorsOf(%v)", bad), got, code, nil, impl.ErrInvalid)
	}
}

func TestConditionThatFails(t *testing.T) {
	for _, m := range minorSamples() {
		got, code := impl.ConditionThatFails(m)
		checkNumber(t, fmt.Sprintf("ConditionThatFails(%v)", m), got, code, 0, impl.ErrNone)
	}
	for want, list := range notMinorSamples() {
		for _, m := range list {
			got, code := impl.ConditionThatFails(m)
			checkNumber(t, fmt.Sprintf("ConditionThatFails(%v)", m), got, code, want, impl.ErrNone)
		}
	}
	for _, bad := range notLeaves() {
		got, code := impl.ConditionThatFails(bad)
		checkNumber(t, fmt.Sprintf("ConditionThatFails(%v)", bad), got, code, 0, impl.ErrInvalid)
	}
}

// Images and majors are found ahead of the conditions 2 to 4, but behind the first one.
func TestLimitsOfConditionThatFails(t *testing.T) {
	for _, c := range []struct {
		m    impl.Leaf
		want int64
		code int64
	}{
		// There are 64 images, and 65.
		{leaf(0, 1, 640, 641), 0, impl.ErrNone}, {leaf(0, 1, 1, 641), 4, impl.ErrNone}, {leaf(0, 1, 1, 1282), 0, impl.ErrLimit}, {leaf(0, 1, 1281, 1282), 0, impl.ErrLimit},
		{leaf(1, 1282, 3, 1282), 0, impl.ErrLimit}, {leaf(1, 8179, 2, 8179), 0, impl.ErrLimit},
		{leaf(1, 2731, 1367, 2731), 1, impl.ErrNone}, {leaf(0, 1, 643, 1282), 1, impl.ErrNone}, {leaf(0, 1, 535, 1282), 1, impl.ErrNone}, {leaf(1, 8179, 1, 2), 1, impl.ErrNone},
		// Majors have a Den that is too great, whichever condition does not hold.
		{leaf(1, 8191, 2, 8191), 0, impl.ErrLimit}, {leaf(1, 4096, 4095, 4096), 0, impl.ErrLimit}, {leaf(2, 8191, 4, 8191), 0, impl.ErrLimit}, {leaf(1, 4096, 1, 3), 0, impl.ErrLimit},
		{leaf(0, 1, 2730, 8191), 0, impl.ErrLimit}, {leaf(0, 1, 2731, 8191), 1, impl.ErrNone}, {leaf(1, 4096, 2049, 4096), 1, impl.ErrNone},
		// Lengths are numbers.
		{leaf(1, 4095, 1, 4094), 0, impl.ErrLimit}, {leaf(1, 255, 2, 257), 2, impl.ErrNone}, {leaf(1, 257, 1, 255), 3, impl.ErrNone}, {leaf(109, 255, 110, 257), 4, impl.ErrNone}, {leaf(1, 4095, 683, 2047), 1, impl.ErrNone}, {leaf(1, 8191, 2047, 4095), 1, impl.ErrNone},
	} {
		if wrong, code := conditionByHand(c.m); wrong != c.want || code != c.code {
			t.Errorf("%v is a wrong sample: %d, %d", c.m, wrong, code)
		}
		got, code := impl.ConditionThatFails(c.m)
		checkNumber(t, fmt.Sprintf("ConditionThatFails(%v)", c.m), got, code, c.want, c.code)
	}
}

// TestConditionsByHand holds the answers against those found without the program.
func TestConditionsByHand(t *testing.T) {
	count := map[int64]int{}
	list := append(leavesUpTo(15), farLeaves()...)
	for _, n := range []int64{4, 5} {
		list = append(list, leavesOf(kneadingAngles(n))...)
	}
	for i := range int64(255) {
		list = append(list, leaf(i, 256, i+1, 256), joined(reduced(i, 255), reduced(i+1, 255)), joined(reduced(i, 252), reduced(i+5, 252)))
	}
	for _, l := range list {
		if !impl.IsLeaf(l) {
			continue
		}
		want, wantCode := conditionByHand(l)
		got, code := impl.ConditionThatFails(l)
		checkNumber(t, fmt.Sprintf("ConditionThatFails(%v)", l), got, code, want, wantCode)
		if code == impl.ErrNone {
			count[got]++
		}
	}
	if count[0] < 70 || count[1] < 500 || count[2] < 500 || count[3] < 50 || count[4] < 50 {
		t.Errorf("the answers are %v", count)
	}
}

func TestPullBackBy(t *testing.T) {
	rabbit, basilica, wide := leaf(1, 7, 2, 7), leaf(1, 3, 2, 3), leaf(1, 8, 7, 8)
	for _, c := range []struct {
		l, m impl.Leaf
		want []impl.Leaf
		code int64
	}{
		// The majors arise from m itself, also if it is its own image.
		{rabbit, rabbit, []impl.Leaf{leaf(1, 14, 9, 14), leaf(1, 7, 4, 7)}, impl.ErrNone}, {basilica, basilica, []impl.Leaf{leaf(1, 6, 5, 6), leaf(1, 3, 2, 3)}, impl.ErrNone},
		{wide, wide, []impl.Leaf{leaf(1, 16, 15, 16), leaf(7, 16, 9, 16)}, impl.ErrNone}, {leaf(5, 12, 7, 12), leaf(5, 12, 7, 12), []impl.Leaf{leaf(5, 24, 19, 24), leaf(7, 24, 17, 24)}, impl.ErrNone},
		// One way alone has no crossing.
		{leaf(2, 7, 4, 7), rabbit, []impl.Leaf{leaf(1, 7, 2, 7), leaf(9, 14, 11, 14)}, impl.ErrNone}, {leaf(1, 7, 4, 7), rabbit, []impl.Leaf{leaf(1, 14, 11, 14), leaf(2, 7, 4, 7)}, impl.ErrNone},
		{leaf(1, 6, 5, 6), basilica, []impl.Leaf{leaf(1, 12, 11, 12), leaf(5, 12, 7, 12)}, impl.ErrNone},
		{leaf(0, 1, 1, 3), basilica, []impl.Leaf{leaf(0, 1, 1, 6), leaf(1, 2, 2, 3)}, impl.ErrNone}, {leaf(1, 3, 5, 6), basilica, []impl.Leaf{leaf(1, 6, 11, 12), leaf(5, 12, 2, 3)}, impl.ErrNone},
		{leaf(1, 14, 4, 7), rabbit, []impl.Leaf{leaf(1, 28, 11, 14), leaf(2, 7, 15, 28)}, impl.ErrNone}, {leaf(0, 1, 1, 2), rabbit, []impl.Leaf{leaf(0, 1, 3, 4), leaf(1, 4, 1, 2)}, impl.ErrNone},
		// Both ways are without a crossing: that with the lesser sum is taken.
		{leaf(2, 5, 3, 5), basilica, []impl.Leaf{leaf(1, 5, 3, 10), leaf(7, 10, 4, 5)}, impl.ErrNone}, {leaf(1, 6, 1, 4), rabbit, []impl.Leaf{leaf(1, 12, 1, 8), leaf(7, 12, 5, 8)}, impl.ErrNone},
		{leaf(1, 3, 1, 2), basilica, []impl.Leaf{leaf(1, 6, 1, 4), leaf(2, 3, 3, 4)}, impl.ErrNone}, {leaf(3, 7, 2, 3), basilica, []impl.Leaf{leaf(3, 14, 1, 3), leaf(5, 7, 5, 6)}, impl.ErrNone},
		{leaf(1, 5, 4, 5), wide, []impl.Leaf{leaf(1, 10, 9, 10), leaf(2, 5, 3, 5)}, impl.ErrNone}, {leaf(1, 3, 2, 3), wide, []impl.Leaf{leaf(1, 6, 1, 3), leaf(2, 3, 5, 6)}, impl.ErrNone},
		{leaf(1, 8, 3, 4), wide, []impl.Leaf{leaf(1, 16, 7, 8), leaf(3, 8, 9, 16)}, impl.ErrNone}, {leaf(1, 4, 7, 8), wide, []impl.Leaf{leaf(1, 8, 15, 16), leaf(7, 16, 5, 8)}, impl.ErrNone},
		// Both sums are equal: the lesser half of First is joined to the greater half of Second.
		{leaf(1, 4, 3, 4), wide, []impl.Leaf{leaf(1, 8, 7, 8), leaf(3, 8, 5, 8)}, impl.ErrNone}, {leaf(1, 8, 5, 8), leaf(1, 10, 9, 10), []impl.Leaf{leaf(1, 16, 13, 16), leaf(5, 16, 9, 16)}, impl.ErrNone},
		{leaf(1, 8, 5, 8), wide, []impl.Leaf{leaf(1, 16, 13, 16), leaf(5, 16, 9, 16)}, impl.ErrNone}, {leaf(1, 5, 7, 10), wide, []impl.Leaf{leaf(1, 10, 17, 20), leaf(7, 20, 3, 5)}, impl.ErrNone},
		// No result: each way has a crossing.
		{leaf(1, 5, 3, 5), rabbit, nil, impl.ErrState}, {leaf(0, 1, 1, 6), rabbit, nil, impl.ErrState}, {leaf(0, 1, 1, 2), wide, nil, impl.ErrState}, {leaf(1, 2, 3, 4), basilica, nil, impl.ErrState},
	} {
		got, code := impl.PullBackBy(c.l, c.m)
		checkLeaves(t, fmt.Sprintf("PullBackBy(%v, %v)", c.l, c.m), got, code, c.want, c.code)
	}
}

// ErrLimit for the halves of the ends of l comes behind ErrState for m, and ahead of that for no
// result.
func TestLimitsOfPullBackBy(t *testing.T) {
	rabbit, far := leaf(1, 7, 2, 7), leaf(1, 4095, 2, 4095)
	for _, c := range []struct {
		l, m impl.Leaf
		want []impl.Leaf
		code int64
	}{
		{leaf(2, 4095, 4, 4095), rabbit, []impl.Leaf{leaf(1, 4095, 2, 4095), leaf(4097, 8190, 4099, 8190)}, impl.ErrNone},
		{far, far, []impl.Leaf{leaf(1, 8190, 4097, 8190), leaf(1, 4095, 2048, 4095)}, impl.ErrNone}, {leaf(2, 4095, 4, 4095), far, []impl.Leaf{leaf(1, 4095, 2, 4095), leaf(4097, 8190, 4099, 8190)}, impl.ErrNone},
		{leaf(1, 8190, 4097, 8190), far, nil, impl.ErrLimit}, {leaf(1, 3, 4095, 4096), rabbit, nil, impl.ErrLimit}, {leaf(1, 4096, 1, 3), rabbit, nil, impl.ErrLimit}, {leaf(2, 8191, 2, 3), rabbit, nil, impl.ErrLimit},
		// There would be no result either.
		{leaf(1, 5, 4095, 8191), rabbit, nil, impl.ErrLimit}, {leaf(1, 8191, 1, 5), rabbit, nil, impl.ErrLimit}, {leaf(1, 4096, 1, 6), rabbit, nil, impl.ErrLimit},
		// m is not minor, and the halves of the ends of l are no angles.
		{leaf(1, 4096, 1, 3), leaf(1, 7, 4, 7), nil, impl.ErrState}, {leaf(1, 4096, 1, 3), leaf(2, 7, 3, 7), nil, impl.ErrState},
		{leaf(1, 4096, 1, 3), leaf(2, 7, 4, 7), nil, impl.ErrState}, {leaf(1, 4096, 1, 3), leaf(0, 1, 1, 4), nil, impl.ErrState},
		// m is short enough, and has too many images, or no majors.
		{leaf(1, 3, 2, 3), leaf(0, 1, 1, 1282), nil, impl.ErrLimit}, {leaf(0, 1, 1281, 1282), leaf(0, 1, 1281, 1282), nil, impl.ErrLimit}, {leaf(1, 4096, 1, 3), leaf(0, 1, 1, 1282), nil, impl.ErrLimit},
		{leaf(1, 3, 2, 3), leaf(1, 8191, 2, 8191), nil, impl.ErrLimit}, {leaf(1, 8191, 2, 8191), leaf(1, 8191, 2, 8191), nil, impl.ErrLimit}, {leaf(1, 3, 2, 3), leaf(2, 8191, 4, 8191), nil, impl.ErrLimit},
		// m is too long, whatever else it is.
		{leaf(1, 3, 2, 3), leaf(0, 1, 643, 1282), nil, impl.ErrState}, {leaf(1, 3, 2, 3), leaf(0, 1, 2731, 8191), nil, impl.ErrState}, {leaf(0, 1, 2731, 8191), leaf(0, 1, 2731, 8191), nil, impl.ErrState},
		{leaf(1, 4096, 2049, 4096), leaf(1, 4096, 2049, 4096), nil, impl.ErrState}, {leaf(1, 3, 2, 3), leaf(1, 4095, 683, 2047), nil, impl.ErrState},
		// m has no majors if it is not minor.
		{leaf(1, 7, 4, 7), leaf(1, 7, 4, 7), nil, impl.ErrState}, {leaf(2, 7, 3, 7), leaf(2, 7, 3, 7), nil, impl.ErrState}, {leaf(2, 7, 4, 7), leaf(2, 7, 4, 7), nil, impl.ErrState}, {leaf(0, 1, 1, 3), leaf(0, 1, 1, 3), nil, impl.ErrState},
	} {
		if want, wantCode := askedByHand(c.l, c.m); len(want) != len(c.want) || wantCode != c.code {
			t.Errorf("%v and %v are wrong samples: %v, %d", c.l, c.m, want, wantCode)
		}
		got, code := impl.PullBackBy(c.l, c.m)
		checkLeaves(t, fmt.Sprintf("PullBackBy(%v, %v)", c.l, c.m), got, code, c.want, c.code)
	}
}

// TestPullBackByHand holds leaves that are pulled back against both ways to join halves. There is no
// result if, and only if, the leaf crosses the minor leaf.
func TestPullBackByHand(t *testing.T) {
	count := map[int64]int{}
	for _, m := range minorSamples() {
		list := append(append(leavesUpTo(7), farLeaves()...), imagesByHand(m)...)
		for _, l := range append(append(list, majorsByHand(m)...), leaf(1, 15, 2, 15), leaf(1, 6, 3, 14), leaf(9, 20, 11, 20), leaf(10, 11, 12, 13)) {
			want, wantCode := pulledBackByHand(l, m)
			got, code := impl.PullBackBy(l, m)
			checkLeaves(t, fmt.Sprintf("PullBackBy(%v, %v)", l, m), got, code, want, wantCode)
			if (code == impl.ErrState) != crossByHand(l, m) && code != impl.ErrLimit {
				t.Errorf("PullBackBy(%v, %v): code %d", l, m, code)
			}
			count[code]++
		}
	}
	if count[impl.ErrNone] < 1000 || count[impl.ErrState] < 500 || count[impl.ErrLimit] < 100 {
		t.Errorf("the codes are %v", count)
	}
}

func TestErrorsOfPullBackBy(t *testing.T) {
	for _, list := range notMinorSamples() {
		for _, m := range list {
			for _, l := range append(leavesUpTo(4), m) {
				got, code := impl.PullBackBy(l, m)
				checkLeaves(t, fmt.Sprintf("PullBackBy(%v, %v)", l, m), got, code, nil, impl.ErrState)
			}
		}
	}
	for _, bad := range notLeaves() {
		// What is no leaf comes ahead of a leaf that is not minor, and of a Den that is too great.
		for _, other := range []impl.Leaf{leaf(1, 7, 2, 7), leaf(1, 7, 4, 7), leaf(2, 7, 4, 7), leaf(1, 8191, 2, 8191), leaf(1, 4096, 1, 3), bad} {
			got, code := impl.PullBackBy(bad, other)
			checkLeaves(t, fmt.Sprintf("PullBackBy(%v, %v)", bad, other), got, code, nil, impl.ErrInvalid)
			got, code = impl.PullBackBy(other, bad)
			checkLeaves(t, fmt.Sprintf("PullBackBy(%v, %v)", other, bad), got, code, nil, impl.ErrInvalid)
		}
	}
}

// TestLeavesOfChapter5AreNew writes into results and into the room behind them, and asks again.
func TestLeavesOfChapter5AreNew(t *testing.T) {
	for _, m := range minorSamples() {
		for range 2 {
			majors, code := impl.MajorsOf(m)
			checkLeaves(t, fmt.Sprintf("MajorsOf(%v)", m), majors, code, majorsByHand(m), impl.ErrNone)
			overwrite(majors, leaf(5, 7, 1, 7))
			for _, l := range []impl.Leaf{m, imageByHand(m)} {
				want, wantCode := pulledBackByHand(l, m)
				pulled, code := impl.PullBackBy(l, m)
				checkLeaves(t, fmt.Sprintf("PullBackBy(%v, %v)", l, m), pulled, code, want, wantCode)
				overwrite(pulled, leaf(5, 7, 1, 7))
			}
		}
	}
}
