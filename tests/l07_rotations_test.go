package tests

import (
	"fmt"
	"math"
	"slices"
	"testing"

	"loop.example/g01234/impl"
)

func TestPortraitOf(t *testing.T) {
	for _, c := range []struct {
		a, b impl.Angle
		want [][]impl.Angle
	}{
		// One set; the order of both angles, and which two of the set they are, does not matter.
		{angle(1, 7), angle(2, 7), setsOver(7, "1 2 4")}, {angle(2, 7), angle(1, 7), setsOver(7, "1 2 4")}, {angle(1, 7), angle(4, 7), setsOver(7, "1 2 4")}, {angle(4, 7), angle(2, 7), setsOver(7, "1 2 4")},
		{angle(1, 3), angle(2, 3), setsOver(3, "1 2")}, {angle(2, 3), angle(1, 3), setsOver(3, "1 2")}, {angle(6, 7), angle(5, 7), setsOver(7, "3 5 6")}, {angle(1, 15), angle(2, 15), setsOver(15, "1 2 4 8")}, {angle(8, 15), angle(1, 15), setsOver(15, "1 2 4 8")},
		{angle(18, 31), angle(20, 31), setsOver(31, "5 9 10 18 20")}, {angle(1, 8191), angle(2, 8191), setsOver(8191, "1 2 4 8 16 32 64 128 256 512 1024 2048 4096")},
		// Several sets: the first one is that of both angles.
		{angle(3, 7), angle(4, 7), setsOver(7, "3 4", "1 6", "2 5")}, {angle(4, 7), angle(3, 7), setsOver(7, "3 4", "1 6", "2 5")}, {angle(1, 7), angle(6, 7), setsOver(7, "1 6", "2 5", "3 4")}, {angle(5, 7), angle(2, 7), setsOver(7, "2 5", "3 4", "1 6")},
		{angle(2, 5), angle(3, 5), setsOver(5, "2 3", "1 4")}, {angle(4, 5), angle(1, 5), setsOver(5, "1 4", "2 3")}, {angle(1, 5), angle(4, 15), setsOver(15, "3 4", "6 8", "1 12", "2 9")}, {angle(1, 15), angle(4, 5), setsOver(15, "1 12", "2 9", "3 4", "6 8")},
		{angle(13, 31), angle(18, 31), setsOver(31, "13 18", "5 26", "10 21", "11 20", "9 22")}, {angle(26, 31), angle(5, 31), setsOver(31, "5 26", "10 21", "11 20", "9 22", "13 18")},
		{angle(22, 63), angle(25, 63), setsOver(63, "22 25 37", "11 44 50")}, {angle(37, 63), angle(22, 63), setsOver(63, "22 25 37", "11 44 50")}, {angle(50, 63), angle(11, 63), setsOver(63, "11 44 50", "22 25 37")}, {angle(10, 63), angle(17, 63), setsOver(63, "10 17", "20 34", "5 40")},
		{angle(47, 585), angle(79, 585), setsOver(585, "47 79 83 376", "94 158 166 167", "188 316 332 334")},
		// MaxSets sets, of one orbit and of two orbits.
		{angle(1, 241), angle(240, 241), mirrored(1, 241, 12)}, {angle(213, 241), angle(28, 241), mirrored(28, 241, 12)},
		{angle(1, 1365), angle(4, 4095), setsOver(4095, "3 4", "6 8", "12 16", "24 32", "48 64", "96 128", "192 256", "384 512", "768 1024", "1536 2048", "1 3072", "2 2049")},
	} {
		got, code := impl.PortraitOf(c.a, c.b)
		checkGaps(t, fmt.Sprintf("PortraitOf(%v, %v)", c.a, c.b), got, code, c.want, impl.ErrNone)
		checkPortraitByHand(t, c.a, c.b)
	}
}

// checkPortraitByHand holds the portrait of two angles, in both orders, against the one found without
// the program, and returns the code.
func checkPortraitByHand(t *testing.T, a, b impl.Angle) int64 {
	t.Helper()
	want, wantCode := portraitByHand(a, b)
	got, code := impl.PortraitOf(a, b)
	checkGaps(t, fmt.Sprintf("PortraitOf(%v, %v)", a, b), got, code, want, wantCode)
	got, code = impl.PortraitOf(b, a)
	checkGaps(t, fmt.Sprintf("PortraitOf(%v, %v)", b, a), got, code, want, wantCode)
	return code
}

// TestErrorsOfPortraitOf asks for portraits in both orders: of what is no angle, of equal angles, of
// angles with a preperiod or with different periods, of those from which no portrait arises, and at
// the limits.
func TestErrorsOfPortraitOf(t *testing.T) {
	for _, c := range []struct {
		a, b impl.Angle
		code int64
	}{
		// Equal angles.
		{angle(0, 1), angle(0, 1), impl.ErrState}, {angle(1, 3), angle(1, 3), impl.ErrState}, {angle(1, 7), angle(1, 7), impl.ErrState}, {angle(1, 2), angle(1, 2), impl.ErrState}, {angle(1, 641), angle(1, 641), impl.ErrState},
		// There are no sets of equal angles, and so not more than MaxSets of them.
		{angle(1, 8191), angle(1, 8191), impl.ErrState}, {angle(1, 2731), angle(1, 2731), impl.ErrState},
		// A preperiod, of one and of both; different periods. 0 alone has the period 1.
		{angle(0, 1), angle(1, 2), impl.ErrState}, {angle(1, 2), angle(1, 4), impl.ErrState}, {angle(1, 3), angle(1, 6), impl.ErrState}, {angle(1, 6), angle(5, 6), impl.ErrState}, {angle(1, 7), angle(1, 14), impl.ErrState}, {angle(1, 14), angle(3, 14), impl.ErrState},
		{angle(1, 14), angle(9, 14), impl.ErrState}, {angle(1, 86), angle(3, 86), impl.ErrState}, {angle(0, 1), angle(1, 3), impl.ErrState}, {angle(0, 1), angle(1, 7), impl.ErrState}, {angle(1, 3), angle(1, 7), impl.ErrState}, {angle(1, 3), angle(1, 5), impl.ErrState},
		{angle(1, 15), angle(1, 31), impl.ErrState}, {angle(1, 8191), angle(1, 2731), impl.ErrState}, {angle(1, 641), angle(1, 8191), impl.ErrState}, {angle(1, 7), angle(1, 12), impl.ErrState}, {angle(0, 1), angle(1, 7154), impl.ErrState},
		// No portrait arises: sets are linked, or the cyclic order is not kept.
		{angle(1, 7), angle(3, 7), impl.ErrState}, {angle(5, 7), angle(1, 7), impl.ErrState}, {angle(1, 15), angle(4, 15), impl.ErrState}, {angle(1, 15), angle(1, 5), impl.ErrState}, {angle(1, 63), angle(4, 63), impl.ErrState},
		{angle(1, 5), angle(2, 5), impl.ErrState}, {angle(3, 31), angle(6, 31), impl.ErrState}, {angle(1, 9), angle(4, 9), impl.ErrState}, {angle(1, 21), angle(2, 21), impl.ErrState}, {angle(1, 4095), angle(1, 1365), impl.ErrState},
		// One set of MaxOrbit angles, and eight sets with MaxOrbit angles together.
		{angle(1, 641), angle(2, 641), impl.ErrState}, {angle(1, 641), angle(256, 641), impl.ErrState},
		// More than MaxSets sets, whether or not they would be linked.
		{angle(3, 8191), angle(4, 8191), impl.ErrLimit}, {angle(1, 8191), angle(3, 8191), impl.ErrLimit}, {angle(1, 8191), angle(8190, 8191), impl.ErrLimit}, {angle(1, 2731), angle(2730, 2731), impl.ErrLimit}, {angle(1, 2731), angle(3, 2731), impl.ErrLimit}, {angle(1, 641), angle(640, 641), impl.ErrLimit},
		{angle(1, 641), angle(3, 641), impl.ErrLimit}, {angle(1, 43), angle(3, 43), impl.ErrLimit}, {angle(1, 641), angle(24, 641), impl.ErrLimit},
		// More than MaxOrbit angles in an orbit, ahead of equal angles, preperiods and periods.
		{angle(1, 131), angle(2, 131), impl.ErrLimit}, {angle(1, 131), angle(1, 131), impl.ErrLimit}, {angle(1, 131), angle(0, 1), impl.ErrLimit}, {angle(1, 131), angle(1, 2), impl.ErrLimit}, {angle(1, 262), angle(1, 2), impl.ErrLimit}, {angle(1, 1282), angle(1, 641), impl.ErrLimit},
		{angle(1, 1282), angle(1, 1282), impl.ErrLimit}, {angle(1, 1282), angle(1, 3), impl.ErrLimit}, {angle(1, 8179), angle(2, 8179), impl.ErrLimit}, {angle(1, 8179), angle(1, 7), impl.ErrLimit}, {angle(1, 8179), angle(1, 8191), impl.ErrLimit},
	} {
		for _, pair := range [][2]impl.Angle{{c.a, c.b}, {c.b, c.a}} {
			got, code := impl.PortraitOf(pair[0], pair[1])
			checkGaps(t, fmt.Sprintf("PortraitOf(%v, %v)", pair[0], pair[1]), got, code, nil, c.code)
		}
		if want, code := portraitByHand(c.a, c.b); want != nil || code != c.code {
			t.Errorf("%v and %v are wrong samples: %v, %d", c.a, c.b, want, code)
		}
	}
	for _, bad := range notAngles() {
		for _, other := range []impl.Angle{bad, angle(1, 7), angle(1, 2), angle(1, 131), angle(0, 0)} {
			for _, pair := range [][2]impl.Angle{{bad, other}, {other, bad}} {
				got, code := impl.PortraitOf(pair[0], pair[1])
				checkGaps(t, fmt.Sprintf("PortraitOf(%v, %v)", pair[0], pair[1]), got, code, nil, impl.ErrInvalid)
			}
		}
	}
}

// TestPortraitsByHand holds the portraits of all two angles of a small period, of all two with a
// small Den, and of all two of some orbits, against those found without the program.
func TestPortraitsByHand(t *testing.T) {
	count := map[int64]int{}
	lists := [][]impl.Angle{anglesUpTo(14), {angle(1, 8191), angle(3, 8191), angle(1, 2731), angle(1, 641), angle(3, 641), angle(1, 131), angle(1, 43), angle(3, 43), angle(1, 12), angle(0, 1)}}
	for n := int64(1); n <= 7; n++ {
		lists = append(lists, kneadingAngles(n))
	}
	for _, den := range []int64{43, 241, 337, 341, 511, 585, 641, 819, 1365, 2047, 4095, 4369, 8191} {
		lists = append(lists, over(den, orbitText(den/3, den)))
	}
	for _, list := range lists {
		for i, a := range list {
			for _, b := range list[:i+1] {
				count[checkPortraitByHand(t, a, b)]++
			}
		}
	}
	if count[impl.ErrNone] < 700 || count[impl.ErrState] < 5000 || count[impl.ErrLimit] < 50 {
		t.Errorf("the codes are %v", count)
	}
}

// TestPortraitsAreNew writes into sets and into the room behind them, looks at the other sets, and
// asks again.
func TestPortraitsAreNew(t *testing.T) {
	for _, c := range knownPortraits() {
		if c.valence == 1 {
			continue
		}
		a, b := c.sets[0][0], c.sets[0][1]
		for range 2 {
			got, code := impl.PortraitOf(a, b)
			want := slices.Clone(c.sets)
			checkGaps(t, fmt.Sprintf("PortraitOf(%v, %v)", a, b), got, code, want, impl.ErrNone)
			for i := range got {
				overwrite(append(got[i], angle(3, 7))[:len(got[i])+1], angle(5, 7))
				overwrite(got[i], angle(5, 7))
				want[i] = slices.Repeat(over(7, "5"), len(want[i]))
				checkGaps(t, fmt.Sprintf("PortraitOf(%v, %v) with the set %d written into", a, b, i), got, 0, want, 0)
			}
		}
	}
}

func TestRotationSet(t *testing.T) {
	for _, c := range []struct {
		q, v int64
		want []impl.Angle
	}{
		{1, 2, over(3, "1 2")}, {1, 3, over(7, "1 2 4")}, {2, 3, over(7, "3 5 6")}, {1, 4, over(15, "1 2 4 8")}, {3, 4, over(15, "7 11 13 14")},
		{1, 5, over(31, "1 2 4 8 16")}, {2, 5, over(31, "5 9 10 18 20")}, {3, 5, over(31, "11 13 21 22 26")}, {4, 5, over(31, "15 23 27 29 30")}, {1, 6, over(63, "1 2 4 8 16 32")}, {5, 6, over(63, "31 47 55 59 61 62")},
		{3, 7, over(127, "21 37 41 42 74 82 84")}, {1, 13, over(8191, "1 2 4 8 16 32 64 128 256 512 1024 2048 4096")}, {12, 13, over(8191, "4095 6143 7167 7679 7935 8063 8127 8159 8175 8183 8187 8189 8190")},
	} {
		for range 2 {
			got, code := impl.RotationSet(c.q, c.v)
			checkAngles(t, fmt.Sprintf("RotationSet(%d, %d)", c.q, c.v), got, code, c.want, impl.ErrNone)
			overwrite(got, angle(5, 7))
		}
	}
	for _, c := range [][2]int64{
		// A common divisor, also with a great v.
		{2, 4}, {2, 6}, {3, 6}, {4, 6}, {2, 8}, {6, 8}, {3, 9}, {6, 9}, {5, 10}, {4, 10}, {10, 12}, {9, 12}, {2, 12}, {6, 12},
		// q is not in 1..v - 1.
		{0, 2}, {0, 3}, {2, 2}, {3, 3}, {3, 2}, {4, 3}, {13, 13}, {14, 13}, {0, 13}, {-1, 2}, {-1, 3}, {-2, 3}, {-12, 13}, {math.MinInt64, 3}, {math.MaxInt64, 3}, {math.MinInt64, 13}, {1 << 32, 5}, {1<<32 + 1, 5},
		// v is not in 2..13.
		{0, 1}, {1, 1}, {0, 0}, {1, 0}, {1, -1}, {-1, -2}, {-2, -3}, {1, -3}, {1, 14}, {3, 14}, {13, 14}, {1, 15}, {1, 64}, {1, 63}, {5, math.MaxInt64}, {1, math.MaxInt64}, {1, math.MinInt64}, {math.MinInt64, math.MinInt64}, {math.MinInt64, -1}, {math.MinInt64, 0}, {1, 1<<32 + 3},
	} {
		got, code := impl.RotationSet(c[0], c[1])
		checkAngles(t, fmt.Sprintf("RotationSet(%d, %d)", c[0], c[1]), got, code, nil, impl.ErrRange)
	}
}

// TestAllRotationSets asks for the sets of all q and v from -1 to 16, and holds them against those
// found without digits: of all orbits of v angles, one is turned by q.
func TestAllRotationSets(t *testing.T) {
	want := map[[2]int64][]impl.Angle{}
	for v := int64(2); v <= 13; v++ {
		den := int64(1)<<v - 1
		met := map[impl.Angle]bool{}
		for _, x := range kneadingAngles(v) {
			if met[x] {
				continue
			}
			orbit := []impl.Angle{}
			for !met[x] {
				met[x] = true
				orbit = append(orbit, x)
				x = doubleByHand(x)
			}
			slices.SortFunc(orbit, orderByHand)
			if q, code := turnByHand(orbit); code == impl.ErrNone {
				if want[[2]int64{q, v}] != nil {
					t.Errorf("two sets of angles k/%d are turned by %d", den, q)
				}
				want[[2]int64{q, v}] = orbit
			}
		}
	}
	for v := int64(-1); v <= 16; v++ {
		for q := int64(-1); q <= 16; q++ {
			wantCode := int64(impl.ErrRange)
			if v >= 2 && v <= 13 && q >= 1 && q < v && divisorOf(q, v) == 1 {
				wantCode = impl.ErrNone
			}
			got, code := impl.RotationSet(q, v)
			checkAngles(t, fmt.Sprintf("RotationSet(%d, %d)", q, v), got, code, want[[2]int64{q, v}], wantCode)
		}
	}
	if len(want) != 57 {
		t.Errorf("there are %d rotation sets", len(want))
	}
}

func TestRotationOfSet(t *testing.T) {
	for _, c := range []struct {
		set  []impl.Angle
		want int64
		code int64
	}{
		// Turned by 0, which is true of 0 alone, by 1, by v - 1 and by others.
		{over(1, "0"), 0, impl.ErrNone}, {over(3, "1 2"), 1, impl.ErrNone}, {over(7, "1 2 4"), 1, impl.ErrNone}, {over(7, "3 5 6"), 2, impl.ErrNone}, {over(15, "7 11 13 14"), 3, impl.ErrNone}, {over(31, "5 9 10 18 20"), 2, impl.ErrNone},
		{over(31, "11 13 21 22 26"), 3, impl.ErrNone}, {over(31, "15 23 27 29 30"), 4, impl.ErrNone}, {over(127, "21 37 41 42 74 82 84"), 3, impl.ErrNone}, {over(8191, orbitText(1, 8191)), 1, impl.ErrNone}, {over(8191, orbitText(4095, 8191)), 12, impl.ErrNone},
		// An angle is led out of the set: the only one, the first one, the last one.
		{over(3, "1"), 0, impl.ErrState}, {over(7, "1"), 0, impl.ErrState}, {over(2, "1"), 0, impl.ErrState}, {over(7, "1 2"), 0, impl.ErrState}, {over(7, "2 4"), 0, impl.ErrState}, {over(7, "1 4"), 0, impl.ErrState}, {over(15, "1 2 4"), 0, impl.ErrState}, {over(15, "2 4 8"), 0, impl.ErrState},
		{over(7, "1 2 3 4"), 0, impl.ErrState}, {over(7, "1 2 4 6"), 0, impl.ErrState}, {over(641, "1"), 0, impl.ErrState}, {over(131, "1 2"), 0, impl.ErrState}, {over(8191, "8190"), 0, impl.ErrState}, {over(8191, "1 2 4"), 0, impl.ErrState},
		// The angles are led to angles of the set, but not turned: two to the same one, or in another order.
		{over(2, "0 1"), 0, impl.ErrState}, {over(6, "1 2 4"), 0, impl.ErrState}, {over(6, "2 4 5"), 0, impl.ErrState}, {over(4, "0 1 2 3"), 0, impl.ErrState}, {over(3, "0 1 2"), 0, impl.ErrState}, {over(7, "0 1 2 4"), 0, impl.ErrState}, {over(5, "1 2 3 4"), 0, impl.ErrState},
		{over(7, "1 2 3 4 5 6"), 0, impl.ErrState}, {over(9, "1 2 4 5 7 8"), 0, impl.ErrState}, {over(31, "3 6 12 17 24"), 0, impl.ErrState}, {over(21, "3 6 7 12 14"), 0, impl.ErrState},
		// MaxOrbit angles, and one more.
		{corners(64), 0, impl.ErrState}, {corners(65)[1:], 0, impl.ErrState}, {over(641, orbitText(1, 641)), 0, impl.ErrState}, {corners(65), 0, impl.ErrRange}, {over(131, orbitText(1, 131)), 0, impl.ErrRange}, {corners(8191), 0, impl.ErrRange},
		// No angles, and angles that are not ascending, or twice in the list.
		{nil, 0, impl.ErrRange}, {[]impl.Angle{}, 0, impl.ErrRange}, {over(3, "2 1"), 0, impl.ErrRange}, {over(7, "1 4 2"), 0, impl.ErrRange}, {over(7, "2 4 1"), 0, impl.ErrRange}, {over(7, "4 2 1"), 0, impl.ErrRange}, {over(7, "2 1 4"), 0, impl.ErrRange},
		{over(1, "0 0"), 0, impl.ErrRange}, {over(3, "1 1 2"), 0, impl.ErrRange}, {over(3, "1 2 2"), 0, impl.ErrRange}, {over(7, "1 2 2 4"), 0, impl.ErrRange}, {over(3, "1 2 1"), 0, impl.ErrRange}, {over(3, "1 2 1 2"), 0, impl.ErrRange}, {slices.Repeat(over(1, "0"), 65), 0, impl.ErrRange},
	} {
		given, whole := roomy(c.set, angle(5, 7))
		before := slices.Clone(whole)
		got, code := impl.RotationOfSet(given)
		checkNumber(t, fmt.Sprintf("RotationOfSet(%v)", c.set), got, code, c.want, c.code)
		checkAngles(t, fmt.Sprintf("the list %v and the room behind it", c.set), whole, 0, before, 0)
		if want, code := turnByHand(c.set); want != c.want || code != c.code {
			t.Errorf("%v is a wrong sample: %d, %d", c.set, want, code)
		}
	}
	for _, bad := range notAngles() {
		for _, list := range [][]impl.Angle{{bad}, {angle(0, 1), bad}, {bad, angle(1, 3)}, {angle(1, 3), bad, angle(2, 3)}, {angle(2, 3), angle(1, 3), bad}, {bad, bad}, append(corners(65), bad), append([]impl.Angle{bad}, corners(65)...)} {
			got, code := impl.RotationOfSet(list)
			checkNumber(t, fmt.Sprintf("RotationOfSet of %d angles and %v", len(list)-1, bad), got, code, 0, impl.ErrInvalid)
		}
	}
}

// TestRotationsByHand holds the answers to all sets of some angles against those found by trying.
func TestRotationsByHand(t *testing.T) {
	turns := map[int64]int{}
	for _, angles := range [][]impl.Angle{corners(7), corners(12), corners(15), over(31, "1 2 4 5 8 9 10 15 16 18 20 23 27 29 30"), sorted(slices.Concat(corners(9), corners(5), corners(2)))} {
		for _, set := range subsets(angles) {
			want, wantCode := turnByHand(set)
			got, code := impl.RotationOfSet(set)
			checkNumber(t, fmt.Sprintf("RotationOfSet(%v)", set), got, code, want, wantCode)
			if code == impl.ErrNone {
				turns[got]++
			}
		}
	}
	if turns[0] < 4 || turns[1] < 4 || turns[2] < 2 || turns[4] < 1 {
		t.Errorf("the numbers are %v", turns)
	}
}
