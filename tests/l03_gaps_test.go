package tests

import (
	"fmt"
	"slices"
	"testing"

	"loop.example/g01234/impl"
)

// brief writes a list for a message, its beginning alone if it is long.
func brief(list []impl.Leaf) string {
	if len(list) > 12 {
		return fmt.Sprintf("%v.. (%d leaves)", list[:12], len(list))
	}
	return fmt.Sprint(list)
}

func TestIsLamination(t *testing.T) {
	if !impl.IsLamination(nil) || !impl.IsLamination([]impl.Leaf{}) {
		t.Errorf("the list without leaves is no lamination")
	}
	for _, l := range append(leavesUpTo(7), farLeaves()...) {
		if !impl.IsLamination([]impl.Leaf{l}) {
			t.Errorf("the list of %v alone is no lamination", l)
		}
	}
	for _, list := range largeLaminations() {
		if !impl.IsLamination(list) {
			t.Errorf("%s is no lamination", brief(list))
		}
	}
	for _, list := range notLaminations() {
		if impl.IsLamination(list) {
			t.Errorf("%s is a lamination", brief(list))
		}
	}
}

// TestIsLaminationOfSixPoints looks at all lists in order of leaves between six angles.
func TestIsLaminationOfSixPoints(t *testing.T) {
	count := 0
	lists, free := leafLists(sixPoints())
	for i, list := range lists {
		if got := impl.IsLamination(list); got != free[i] {
			t.Fatalf("IsLamination(%v): got %v, want %v", list, got, free[i])
		}
		if free[i] {
			count++
		}
	}
	// A hexagon has 45 sets of diagonals that do not cross, and 6 sides.
	if count != 45*64 {
		t.Errorf("%d laminations, want %d", count, 45*64)
	}
}

// TestIsLaminationByOrder takes the leaves of laminations in other orders.
func TestIsLaminationByOrder(t *testing.T) {
	for _, list := range laminationsOf(sixPoints()[:5]) {
		for i := range list {
			for j := range list {
				other := slices.Clone(list)
				other[i], other[j] = list[j], list[i]
				if got := impl.IsLamination(other); got != (i == j) {
					t.Fatalf("IsLamination(%v): got %v", other, got)
				}
				if impl.IsLamination(slices.Insert(slices.Clone(list), j, list[i])) {
					t.Fatalf("%v with %v twice is a lamination", list, list[i])
				}
			}
		}
	}
}

// addedByHand returns what AddLeaf has to return for a lamination with less than MaxLeaves leaves.
func addedByHand(list []impl.Leaf, l impl.Leaf) ([]impl.Leaf, int64) {
	if slices.Contains(list, l) {
		return list, impl.ErrNone
	}
	if slices.ContainsFunc(list, func(m impl.Leaf) bool { return crossByHand(l, m) }) {
		return nil, impl.ErrState
	}
	longer := append(slices.Clone(list), l)
	slices.SortFunc(longer, orderLeavesByHand)
	return longer, impl.ErrNone
}

func TestAddLeaf(t *testing.T) {
	triangle := []impl.Leaf{leaf(1, 7, 2, 7), leaf(1, 7, 4, 7), leaf(2, 7, 4, 7)}
	for _, c := range []struct {
		list []impl.Leaf
		l    impl.Leaf
		want []impl.Leaf
		code int64
	}{
		{nil, leaf(1, 7, 2, 7), triangle[:1], impl.ErrNone},
		{[]impl.Leaf{}, leaf(0, 1, 1, 2), []impl.Leaf{leaf(0, 1, 1, 2)}, impl.ErrNone},
		{triangle, leaf(3, 7, 1, 2), append(slices.Clone(triangle), leaf(3, 7, 1, 2)), impl.ErrNone},
		{triangle, leaf(0, 1, 1, 7), append([]impl.Leaf{leaf(0, 1, 1, 7)}, triangle...), impl.ErrNone},
		{triangle, leaf(1, 7, 3, 14), append([]impl.Leaf{leaf(1, 7, 3, 14)}, triangle...), impl.ErrNone},
		{triangle[1:], leaf(1, 7, 2, 7), triangle, impl.ErrNone}, {triangle[:2], leaf(2, 7, 4, 7), triangle, impl.ErrNone},
		{triangle, leaf(1, 7, 2, 7), triangle, impl.ErrNone}, {triangle, leaf(1, 7, 4, 7), triangle, impl.ErrNone}, {triangle, leaf(2, 7, 4, 7), triangle, impl.ErrNone},
		{triangle, leaf(3, 7, 6, 7), nil, impl.ErrState}, {triangle, leaf(0, 1, 2, 7), nil, impl.ErrState}, {triangle, leaf(1, 7, 3, 7), nil, impl.ErrState},
		{triangle[:1], leaf(3, 14, 1, 2), nil, impl.ErrState}, {triangle[2:], leaf(1, 7, 3, 7), nil, impl.ErrState},
	} {
		got, code := impl.AddLeaf(c.list, c.l)
		checkLeaves(t, fmt.Sprintf("AddLeaf(%v, %v)", c.list, c.l), got, code, c.want, c.code)
	}
}

// TestAddLeafToSmallLaminations adds leaves to all laminations of leaves between five angles.
func TestAddLeafToSmallLaminations(t *testing.T) {
	points := sixPoints()
	leaves := append(leavesOf(points), leaf(1, 8190, 1, 5), leaf(1, 6, 8189, 8190), leaf(2, 5, 4, 5), leaf(3, 8191, 1, 7))
	count := map[int64]int{}
	for _, list := range laminationsOf(points[1:]) {
		for _, l := range leaves {
			want, wantCode := addedByHand(list, l)
			got, code := impl.AddLeaf(list, l)
			checkLeaves(t, fmt.Sprintf("AddLeaf(%v, %v)", list, l), got, code, want, wantCode)
			count[code]++
		}
	}
	if count[impl.ErrNone] < 1000 || count[impl.ErrState] < 1000 {
		t.Errorf("the codes are %v", count)
	}
}

// TestLimitsOfAddLeaf adds leaves to laminations with MaxLeaves leaves, and one less.
func TestLimitsOfAddLeaf(t *testing.T) {
	for _, c := range []struct {
		list []impl.Leaf
		l    impl.Leaf
		want []impl.Leaf
		code int64
	}{
		{fan(199), leaf(0, 1, 200, 401), fan(200), impl.ErrNone}, {fan(200)[1:], leaf(0, 1, 1, 401), fan(200), impl.ErrNone}, {ladder(199), leaf(200, 401, 201, 401), ladder(200), impl.ErrNone},
		{fan(200), leaf(0, 1, 201, 401), nil, impl.ErrLimit}, {ladder(200), leaf(0, 1, 1, 401), nil, impl.ErrLimit}, {teeth(200), leaf(0, 1, 400, 401), nil, impl.ErrLimit},
		// A leaf that is there needs no room, and ErrState comes ahead of ErrLimit.
		{fan(200), leaf(0, 1, 200, 401), fan(200), impl.ErrNone}, {fan(200), leaf(0, 1, 77, 401), fan(200), impl.ErrNone}, {teeth(200), leaf(1, 401, 2, 401), teeth(200), impl.ErrNone},
		{fan(200), leaf(1, 802, 1, 2), nil, impl.ErrState}, {ladder(200), leaf(201, 401, 203, 401), nil, impl.ErrState},
		// Longer lists are no laminations, whatever is added.
		{fan(201), leaf(0, 1, 1, 401), nil, impl.ErrInvalid}, {fan(201), leaf(1, 802, 1, 2), nil, impl.ErrInvalid}, {fan(201), leaf(0, 1, 202, 401), nil, impl.ErrInvalid},
	} {
		got, code := impl.AddLeaf(c.list, c.l)
		checkLeaves(t, fmt.Sprintf("AddLeaf(%s, %v)", brief(c.list), c.l), got, code, c.want, c.code)
	}
}

func TestErrorsOfAddLeaf(t *testing.T) {
	for _, bad := range notLeaves() {
		for _, list := range [][]impl.Leaf{nil, {leaf(1, 7, 2, 7)}, fan(200), {bad}, {leaf(1, 7, 3, 7), leaf(2, 7, 4, 7)}} {
			got, code := impl.AddLeaf(list, bad)
			checkLeaves(t, fmt.Sprintf("AddLeaf(%s, %v)", brief(list), bad), got, code, nil, impl.ErrInvalid)
		}
	}
	for _, list := range notLaminations() {
		for _, l := range []impl.Leaf{leaf(1, 7, 2, 7), leaf(1, 10, 9, 10), leaf(3, 14, 13, 14)} {
			got, code := impl.AddLeaf(list, l)
			checkLeaves(t, fmt.Sprintf("AddLeaf(%s, %v)", brief(list), l), got, code, nil, impl.ErrInvalid)
		}
	}
}

func TestGapsOf(t *testing.T) {
	a, b, c, d := angle(1, 7), angle(2, 7), angle(4, 7), angle(6, 7)
	for _, x := range []struct {
		list []impl.Leaf
		want [][]impl.Angle
	}{
		{nil, [][]impl.Angle{{}}},
		{[]impl.Leaf{}, [][]impl.Angle{{}}},
		{[]impl.Leaf{leaf(1, 7, 2, 7)}, [][]impl.Angle{{a, b}, {a, b}}},
		{[]impl.Leaf{leaf(0, 1, 8190, 8191)}, [][]impl.Angle{{angle(0, 1), angle(8190, 8191)}, {angle(0, 1), angle(8190, 8191)}}},
		{[]impl.Leaf{leaf(1, 7, 2, 7), leaf(4, 7, 6, 7)}, [][]impl.Angle{{a, b}, {a, b, c, d}, {c, d}}},
		{[]impl.Leaf{leaf(1, 7, 6, 7), leaf(2, 7, 4, 7)}, [][]impl.Angle{{a, b, c, d}, {a, d}, {b, c}}},
		{[]impl.Leaf{leaf(1, 7, 2, 7), leaf(1, 7, 4, 7)}, [][]impl.Angle{{a, b}, {a, b, c}, {a, c}}},
		{[]impl.Leaf{leaf(1, 7, 4, 7), leaf(2, 7, 4, 7)}, [][]impl.Angle{{a, b, c}, {a, c}, {b, c}}},
		{[]impl.Leaf{leaf(1, 7, 2, 7), leaf(1, 7, 4, 7), leaf(2, 7, 4, 7)}, [][]impl.Angle{{a, b}, {a, b, c}, {a, c}, {b, c}}},
		{[]impl.Leaf{leaf(1, 7, 2, 7), leaf(1, 7, 6, 7), leaf(2, 7, 4, 7), leaf(4, 7, 6, 7)}, [][]impl.Angle{{a, b}, {a, b, c, d}, {a, d}, {b, c}, {c, d}}},
		{[]impl.Leaf{leaf(1, 7, 2, 7), leaf(1, 7, 4, 7), leaf(1, 7, 6, 7)}, [][]impl.Angle{{a, b}, {a, b, c}, {a, c, d}, {a, d}}},
	} {
		got, code := impl.GapsOf(x.list)
		checkGaps(t, fmt.Sprintf("GapsOf(%v)", x.list), got, code, x.want, impl.ErrNone)
	}
	for _, bad := range notLaminations() {
		got, code := impl.GapsOf(bad)
		checkGaps(t, fmt.Sprintf("GapsOf(%s)", brief(bad)), got, code, nil, impl.ErrInvalid)
	}
}

// TestGapsByHand holds gaps against those that are found without a walk, for all laminations of
// leaves between six angles, and for large ones.
func TestGapsByHand(t *testing.T) {
	full := 0
	for _, list := range append(laminationsOf(sixPoints()), largeLaminations()...) {
		got, code := impl.GapsOf(list)
		checkGaps(t, fmt.Sprintf("GapsOf(%s)", brief(list)), got, code, gapsByHand(list), impl.ErrNone)
		if len(list) == 200 {
			full++
		}
	}
	if full < 4 {
		t.Errorf("only %d laminations with MaxLeaves leaves are among the samples", full)
	}
}

func TestGapAround(t *testing.T) {
	triangle := []impl.Leaf{leaf(1, 7, 2, 7), leaf(1, 7, 4, 7), leaf(2, 7, 4, 7)}
	a, b, c := angle(1, 7), angle(2, 7), angle(4, 7)
	for _, x := range []struct {
		list []impl.Leaf
		x    impl.Angle
		want []impl.Angle
		code int64
	}{
		{triangle, angle(3, 7), []impl.Angle{b, c}, impl.ErrNone}, {triangle, angle(3, 14), []impl.Angle{a, b}, impl.ErrNone},
		{triangle, angle(0, 1), []impl.Angle{a, c}, impl.ErrNone}, {triangle, angle(6, 7), []impl.Angle{a, c}, impl.ErrNone},
		{triangle, angle(8190, 8191), []impl.Angle{a, c}, impl.ErrNone}, {triangle, angle(1, 8191), []impl.Angle{a, c}, impl.ErrNone},
		{triangle, a, nil, impl.ErrState}, {triangle, b, nil, impl.ErrState}, {triangle, c, nil, impl.ErrState},
		{triangle[:1], angle(0, 1), []impl.Angle{a, b}, impl.ErrNone}, {triangle[:1], angle(1, 5), []impl.Angle{a, b}, impl.ErrNone}, {triangle[:1], b, nil, impl.ErrState},
		{triangle[:2], angle(3, 7), []impl.Angle{a, b, c}, impl.ErrNone}, {triangle[1:], angle(1, 5), []impl.Angle{a, b, c}, impl.ErrNone},
		// Without leaves the only gap has no corners, and no angle is an end.
		{nil, angle(0, 1), nil, impl.ErrNone}, {[]impl.Leaf{}, angle(8190, 8191), nil, impl.ErrNone}, {nil, a, nil, impl.ErrNone},
		{[]impl.Leaf{leaf(0, 1, 1, 2)}, angle(0, 1), nil, impl.ErrState}, {[]impl.Leaf{leaf(0, 1, 1, 2)}, angle(1, 8191), []impl.Angle{angle(0, 1), angle(1, 2)}, impl.ErrNone},
		{fan(200), angle(1, 401), nil, impl.ErrState}, {fan(200), angle(1, 2), []impl.Angle{angle(0, 1), angle(200, 401)}, impl.ErrNone},
	} {
		got, code := impl.GapAround(x.list, x.x)
		checkAngles(t, fmt.Sprintf("GapAround(%s, %v)", brief(x.list), x.x), got, code, x.want, x.code)
	}
}

// TestGapAroundByHand asks the gaps of many angles, in all laminations of leaves between six angles
// and in large ones.
func TestGapAroundByHand(t *testing.T) {
	near := append(anglesUpTo(7), sixPoints()...)
	near = append(near, angle(1, 8190), angle(2, 8191), angle(8189, 8190), angle(8189, 8191), angle(4095, 8191), angle(4096, 8191))
	for _, list := range append(laminationsOf(sixPoints()), largeLaminations()...) {
		if len(list) == 0 {
			continue
		}
		ends, found := endsByHand(list), cornersByPlace(list)
		for _, x := range near {
			got, code := impl.GapAround(list, x)
			if slices.Contains(ends, x) {
				checkAngles(t, fmt.Sprintf("GapAround(%s, %v)", brief(list), x), got, code, nil, impl.ErrState)
			} else {
				checkAngles(t, fmt.Sprintf("GapAround(%s, %v)", brief(list), x), got, code, found[placeOf(list, x)], impl.ErrNone)
			}
		}
	}
}

func TestErrorsOfGapAround(t *testing.T) {
	for _, bad := range notLaminations() {
		// What is no lamination comes ahead of an end of a leaf.
		for _, x := range []impl.Angle{angle(1, 7), angle(0, 1), angle(13, 14)} {
			got, code := impl.GapAround(bad, x)
			checkAngles(t, fmt.Sprintf("GapAround(%s, %v)", brief(bad), x), got, code, nil, impl.ErrInvalid)
		}
	}
	for _, bad := range notAngles() {
		for _, list := range [][]impl.Leaf{nil, {leaf(1, 7, 2, 7)}, {leaf(0, 1, 1, 2)}, fan(200), fan(201)} {
			got, code := impl.GapAround(list, bad)
			checkAngles(t, fmt.Sprintf("GapAround(%s, %v)", brief(list), bad), got, code, nil, impl.ErrInvalid)
		}
	}
}

func TestPolygonOf(t *testing.T) {
	for _, c := range []struct {
		corners []impl.Angle
		want    []impl.Leaf
	}{
		{[]impl.Angle{angle(1, 7), angle(2, 7), angle(4, 7)}, []impl.Leaf{leaf(1, 7, 2, 7), leaf(1, 7, 4, 7), leaf(2, 7, 4, 7)}},
		{[]impl.Angle{angle(1, 3), angle(2, 3)}, []impl.Leaf{leaf(1, 3, 2, 3)}},
		{[]impl.Angle{angle(0, 1), angle(1, 2)}, []impl.Leaf{leaf(0, 1, 1, 2)}},
		{[]impl.Angle{angle(0, 1), angle(1, 8191), angle(1, 2), angle(8190, 8191)}, []impl.Leaf{leaf(0, 1, 1, 8191), leaf(0, 1, 8190, 8191), leaf(1, 8191, 1, 2), leaf(1, 2, 8190, 8191)}},
	} {
		got, code := impl.PolygonOf(c.corners)
		checkLeaves(t, fmt.Sprintf("PolygonOf(%v)", c.corners), got, code, c.want, impl.ErrNone)
	}
	for n := int64(3); n <= 200; n++ {
		list := corners(n)
		want := []impl.Leaf{joined(list[0], list[1]), joined(list[0], list[n-1])}
		for i := range n - 2 {
			want = append(want, joined(list[i+1], list[i+2]))
		}
		got, code := impl.PolygonOf(list)
		checkLeaves(t, fmt.Sprintf("PolygonOf of %d angles", n), got, code, want, impl.ErrNone)
		if !impl.IsLamination(got) {
			t.Errorf("the polygon of %d angles is no lamination", n)
		}
	}
}

func TestErrorsOfPolygonOf(t *testing.T) {
	for _, bad := range [][]impl.Angle{
		nil, {}, {angle(0, 1)}, {angle(8190, 8191)}, corners(201), corners(402),
		{angle(1, 3), angle(1, 3)}, {angle(2, 3), angle(1, 3)}, {angle(1, 7), angle(4, 7), angle(2, 7)}, {angle(1, 7), angle(2, 7), angle(2, 7)},
		{angle(1, 7), angle(1, 7), angle(2, 7)}, {angle(2, 7), angle(4, 7), angle(1, 7)}, {angle(1, 2), angle(0, 1)}, {angle(1, 8190), angle(1, 8191)},
	} {
		got, code := impl.PolygonOf(bad)
		checkLeaves(t, fmt.Sprintf("PolygonOf(%v)", bad), got, code, nil, impl.ErrRange)
	}
	for _, bad := range notAngles() {
		// What is no angle comes ahead of a list that is not as told.
		for _, list := range [][]impl.Angle{
			{bad}, {bad, angle(8190, 8191)}, {angle(0, 1), bad}, {angle(1, 7), bad, angle(6, 7)}, {angle(2, 7), angle(1, 7), bad},
			append(corners(200), bad), append(corners(201), bad), append([]impl.Angle{bad}, corners(200)...),
		} {
			got, code := impl.PolygonOf(list)
			checkLeaves(t, fmt.Sprintf("PolygonOf of %d angles with %v", len(list), bad), got, code, nil, impl.ErrInvalid)
		}
	}
}

// TestListsOfLeavesAreLeftUnchanged checks lists and the room behind them, also when what has been
// returned is written into.
func TestListsOfLeavesAreLeftUnchanged(t *testing.T) {
	l, rest := leaf(1, 401, 2, 401), leaf(3, 7, 1, 7)
	for _, list := range append(append(laminationsOf(sixPoints()[:4]), largeLaminations()...), notLaminations()...) {
		given, whole := roomy(list, rest)
		before := slices.Clone(whole)
		impl.IsLamination(given)
		added, _ := impl.AddLeaf(given, l)
		overwrite(added, rest)
		for _, m := range given {
			same, _ := impl.AddLeaf(given, m)
			overwrite(same, rest)
		}
		impl.GapsOf(given)
		impl.GapAround(given, angle(1, 5))
		if !slices.Equal(whole, before) {
			t.Errorf("%s has been changed", brief(list))
		}
	}
}

func TestListsOfAnglesAreLeftUnchanged(t *testing.T) {
	for _, list := range [][]impl.Angle{corners(2), corners(3), corners(7), corners(199), corners(200), corners(201), corners(1), {angle(2, 3), angle(1, 3)}, {angle(1, 3), angle(2, 4)}} {
		given, whole := roomy(list, angle(5, 7))
		before := slices.Clone(whole)
		impl.PolygonOf(given)
		if !slices.Equal(whole, before) {
			t.Errorf("%v has been changed", list)
		}
	}
}

// TestGapsShareNoMemory writes into each gap, and into the room behind it, and looks at the others.
func TestGapsShareNoMemory(t *testing.T) {
	for _, list := range [][]impl.Leaf{nil, fan(3), ladder(5), teeth(200), filled(corners(20), 0, 7, 200)} {
		got, _ := impl.GapsOf(list)
		want, _ := impl.GapsOf(list)
		got = slices.Clip(got)
		for i := range got {
			overwrite(got[i], angle(5, 7))
			want[i] = got[i]
			checkGaps(t, fmt.Sprintf("GapsOf(%s) with gap %d written into", brief(list), i), got, impl.ErrNone, want, impl.ErrNone)
		}
	}
}
