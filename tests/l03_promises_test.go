package tests

import (
	"fmt"
	"testing"

	"loop.example/g01234/impl"
)

// Promise 3: images of leaves that are pulled back are the leaf. With it goes the guarantee that
// leaves that are pulled back cross neither each other nor the diameter.
func TestImagesOfLeavesThatArePulledBackAreTheLeaf(t *testing.T) {
	count := 0
	for _, d := range append(diametersUpTo(16), leaf(1, 8190, 2048, 4095), leaf(1, 4096, 2049, 4096), leaf(4093, 8190, 4094, 4095)) {
		for _, l := range append(leavesUpTo(8), leaf(1, 4095, 4094, 4095), leaf(1, 4095, 1, 4094), leaf(1, 641, 640, 641)) {
			pulled, code := impl.PullBackPast(l, d)
			if code != impl.ErrNone {
				continue
			}
			count++
			what := fmt.Sprintf("PullBackPast(%v, %v) = %v", l, d, pulled)
			if len(pulled) != 2 || orderLeavesByHand(pulled[0], pulled[1]) >= 0 {
				t.Fatalf("%s: not two leaves in order", what)
			}
			for _, m := range pulled {
				image, code := impl.ImageOfLeaf(m)
				checkLeaf(t, what+": the image", image, code, l, impl.ErrNone)
				crosses, code := impl.DoLeavesCross(m, d)
				checkAnswer(t, what+": crossing the diameter", crosses, code, false, impl.ErrNone)
			}
			crosses, code := impl.DoLeavesCross(pulled[0], pulled[1])
			checkAnswer(t, what+": crossing each other", crosses, code, false, impl.ErrNone)
		}
	}
	if count < 5000 {
		t.Errorf("only %d leaves have been pulled back", count)
	}
}

// Promise 3: laminations have one gap more than leaves.
func TestLaminationsHaveOneGapMoreThanLeaves(t *testing.T) {
	for _, list := range append(laminationsOf(sixPoints()), largeLaminations()...) {
		gaps, code := impl.GapsOf(list)
		if len(gaps) != len(list)+1 || code != impl.ErrNone {
			t.Errorf("%s: %d gaps, code %d", brief(list), len(gaps), code)
		}
	}
}

// Promise 3, step by step: each leaf that is added divides one gap.
func TestLeavesThatAreAddedDivideGaps(t *testing.T) {
	for _, step := range []int{1, 17, 101, 997} {
		leaves := leavesUpTo(11)
		list := []impl.Leaf{}
		for i := range leaves {
			longer, code := impl.AddLeaf(list, leaves[i*step%len(leaves)])
			if code == impl.ErrState {
				continue
			}
			if code != impl.ErrNone || !impl.IsLamination(longer) {
				t.Fatalf("AddLeaf: code %d for %v", code, longer)
			}
			list = longer
			gaps, code := impl.GapsOf(list)
			if len(gaps) != len(list)+1 || code != impl.ErrNone {
				t.Fatalf("%s: %d gaps, code %d", brief(list), len(gaps), code)
			}
		}
		// No more leaves go between n ends than a polygon has sides and diagonals in triangles.
		if n := len(endsByHand(list)); len(list) != 2*n-3 {
			t.Errorf("step %d: %d leaves between %d ends", step, len(list), n)
		}
	}
}

// Gaps of polygons are the polygon, and what lies behind each of its leaves.
func TestGapsOfPolygons(t *testing.T) {
	for n := int64(3); n <= 200; n += 7 {
		list, code := impl.PolygonOf(corners(n))
		if code != impl.ErrNone {
			t.Fatalf("PolygonOf of %d angles: code %d", n, code)
		}
		gaps, code := impl.GapsOf(list)
		checkGaps(t, fmt.Sprintf("GapsOf the polygon of %d angles", n), gaps, code, gapsByHand(list), impl.ErrNone)
		inner, outer := 0, 0
		for _, gap := range gaps {
			if len(gap) == int(n) {
				inner++
			}
			if len(gap) == 2 {
				outer++
			}
		}
		if inner != 1 || outer != int(n) {
			t.Errorf("the polygon of %d angles: %d gaps inside, %d outside", n, inner, outer)
		}
	}
}
