package tests

import (
	"fmt"
	"math"
	"slices"
	"testing"

	"loop.example/g01234/impl"
)

func TestConstantsOfChapter1(t *testing.T) {
	codes := []int64{impl.ErrNone, impl.ErrInvalid, impl.ErrRange, impl.ErrLimit, impl.ErrNotFound, impl.ErrState, impl.ErrSyntax}
	if !slices.Equal(codes, []int64{0, 1, 2, 3, 4, 5, 6}) {
		t.Errorf("the error codes are %v", codes)
	}
	if impl.MaxDen != 8191 || impl.MaxOrbit != 64 {
		t.Errorf("the limits are %d and %d", impl.MaxDen, impl.MaxOrbit)
	}
}

func TestIsAngle(t *testing.T) {
	for _, a := range sampleAngles() {
		if !impl.IsAngle(a) {
			t.Errorf("%v is no angle", a)
		}
	}
	for _, a := range notAngles() {
		if impl.IsAngle(a) {
			t.Errorf("%v is an angle", a)
		}
	}
	count := 0
	for den := int64(-2); den <= 30; den++ {
		for num := int64(-2); num <= 32; num++ {
			if impl.IsAngle(angle(num, den)) {
				count++
			}
		}
	}
	if want := len(anglesUpTo(30)); count != want {
		t.Errorf("%d angles with a Den of at most 30, want %d", count, want)
	}
}

func TestAngleOf(t *testing.T) {
	for _, c := range []struct {
		num, den int64
		want     impl.Angle
		code     int64
	}{
		{-1, 4, angle(3, 4), impl.ErrNone},
		{0, 1, angle(0, 1), impl.ErrNone},
		{0, 12, angle(0, 1), impl.ErrNone},
		{5, 5, angle(0, 1), impl.ErrNone},
		{-5, 5, angle(0, 1), impl.ErrNone},
		{4, 6, angle(2, 3), impl.ErrNone},
		{10, 6, angle(2, 3), impl.ErrNone},
		{-2, 6, angle(2, 3), impl.ErrNone},
		{-14, 6, angle(2, 3), impl.ErrNone},
		{1, 8191, angle(1, 8191), impl.ErrNone},
		{1, 8192, angle(0, 0), impl.ErrLimit},
		{1, 8193, angle(0, 0), impl.ErrLimit},
		{3, 8193, angle(1, 2731), impl.ErrNone},
		{2, 16382, angle(1, 8191), impl.ErrNone},
		{-2, 16384, angle(0, 0), impl.ErrLimit},
		{1000000000, 1000000000, angle(0, 1), impl.ErrNone},
		{-1000000000, 1000000000, angle(0, 1), impl.ErrNone},
		{-500000000, 1000000000, angle(1, 2), impl.ErrNone},
		{999999999, 1000000000, angle(0, 0), impl.ErrLimit},
		{1000000000, 7, angle(6, 7), impl.ErrNone},
		{-1000000000, 7, angle(1, 7), impl.ErrNone},
		{1000000001, 7, angle(0, 0), impl.ErrRange},
		{-1000000001, 7, angle(0, 0), impl.ErrRange},
		{1, 1000000001, angle(0, 0), impl.ErrRange},
		{0, 1000000001, angle(0, 0), impl.ErrRange},
		{1000000001, 8192, angle(0, 0), impl.ErrRange},
		{1, 0, angle(0, 0), impl.ErrRange},
		{0, 0, angle(0, 0), impl.ErrRange},
		{1, -1, angle(0, 0), impl.ErrRange},
		{math.MinInt64, math.MinInt64, angle(0, 0), impl.ErrRange},
		{math.MaxInt64, math.MaxInt64, angle(0, 0), impl.ErrRange},
		{math.MinInt64, 1, angle(0, 0), impl.ErrRange},
	} {
		got, code := impl.AngleOf(c.num, c.den)
		checkAngle(t, fmt.Sprintf("AngleOf(%d, %d)", c.num, c.den), got, code, c.want, c.code)
	}
}

func TestAngleOfTakesWholeTurnsAway(t *testing.T) {
	for den := int64(1); den <= 25; den++ {
		for num := -3 * den; num <= 3*den; num++ {
			got, code := impl.AngleOf(num, den)
			checkAngle(t, fmt.Sprintf("AngleOf(%d, %d)", num, den), got, code, reduced(num+3*den, den), impl.ErrNone)
		}
	}
}

func TestAddAngles(t *testing.T) {
	for _, c := range []struct {
		a, b, want impl.Angle
		code       int64
	}{
		{angle(1, 6), angle(5, 6), angle(0, 1), impl.ErrNone},
		{angle(1, 6), angle(1, 6), angle(1, 3), impl.ErrNone},
		{angle(0, 1), angle(0, 1), angle(0, 1), impl.ErrNone},
		{angle(0, 1), angle(5, 7), angle(5, 7), impl.ErrNone},
		{angle(1, 2), angle(2, 3), angle(1, 6), impl.ErrNone},
		{angle(1, 4), angle(1, 6), angle(5, 12), impl.ErrNone},
		{angle(8190, 8191), angle(8190, 8191), angle(8189, 8191), impl.ErrNone},
		{angle(1, 90), angle(1, 91), angle(181, 8190), impl.ErrNone},
		{angle(1, 4095), angle(1, 2), angle(4097, 8190), impl.ErrNone},
		{angle(1, 4096), angle(1, 3), angle(0, 0), impl.ErrLimit},
		{angle(1, 4097), angle(1, 2), angle(0, 0), impl.ErrLimit},
		{angle(1, 8191), angle(1, 8190), angle(0, 0), impl.ErrLimit},
		{angle(8190, 8191), angle(8189, 8190), angle(0, 0), impl.ErrLimit},
	} {
		got, code := impl.AddAngles(c.a, c.b)
		checkAngle(t, fmt.Sprintf("AddAngles(%v, %v)", c.a, c.b), got, code, c.want, c.code)
		got, code = impl.AddAngles(c.b, c.a)
		checkAngle(t, fmt.Sprintf("AddAngles(%v, %v)", c.b, c.a), got, code, c.want, c.code)
	}
	for _, a := range anglesUpTo(20) {
		for _, b := range anglesUpTo(20) {
			got, code := impl.AddAngles(a, b)
			want := reduced(a.Num*b.Den+b.Num*a.Den, a.Den*b.Den)
			checkAngle(t, fmt.Sprintf("AddAngles(%v, %v)", a, b), got, code, want, impl.ErrNone)
		}
	}
	for _, bad := range notAngles() {
		got, code := impl.AddAngles(bad, angle(1, 3))
		checkAngle(t, fmt.Sprintf("AddAngles(%v, ..)", bad), got, code, angle(0, 0), impl.ErrInvalid)
		got, code = impl.AddAngles(angle(1, 8191), bad)
		checkAngle(t, fmt.Sprintf("AddAngles(.., %v)", bad), got, code, angle(0, 0), impl.ErrInvalid)
	}
}

func TestDoubleAngle(t *testing.T) {
	for _, c := range [][2]impl.Angle{
		{angle(4, 7), angle(1, 7)}, {angle(0, 1), angle(0, 1)}, {angle(1, 2), angle(0, 1)},
		{angle(1, 6), angle(1, 3)}, {angle(5, 6), angle(2, 3)}, {angle(3, 8), angle(3, 4)},
		{angle(8190, 8191), angle(8189, 8191)}, {angle(4095, 4096), angle(2047, 2048)},
	} {
		got, code := impl.DoubleAngle(c[0])
		checkAngle(t, fmt.Sprintf("DoubleAngle(%v)", c[0]), got, code, c[1], impl.ErrNone)
	}
	for _, a := range sampleAngles() {
		got, code := impl.DoubleAngle(a)
		checkAngle(t, fmt.Sprintf("DoubleAngle(%v)", a), got, code, reduced(2*a.Num, a.Den), impl.ErrNone)
	}
	for _, bad := range notAngles() {
		got, code := impl.DoubleAngle(bad)
		checkAngle(t, fmt.Sprintf("DoubleAngle(%v)", bad), got, code, angle(0, 0), impl.ErrInvalid)
	}
}

func TestOrbitOf(t *testing.T) {
	for _, orbit := range [][]impl.Angle{
		{angle(1, 6), angle(1, 3), angle(2, 3)},
		{angle(0, 1)},
		{angle(1, 2), angle(0, 1)},
		{angle(3, 7), angle(6, 7), angle(5, 7)},
		{angle(1, 12), angle(1, 6), angle(1, 3), angle(2, 3)},
	} {
		got, code := impl.OrbitOf(orbit[0])
		checkAngles(t, fmt.Sprintf("OrbitOf(%v)", orbit[0]), got, code, orbit, impl.ErrNone)
	}
}

func TestOrbitsAndPeriodsUpToTheLimit(t *testing.T) {
	for _, a := range sampleAngles() {
		preperiod, period := orbitByNumbers(a.Num, a.Den)
		orbit, periods := []impl.Angle{}, []int64{preperiod, period}
		wantCode := int64(impl.ErrNone)
		for x := a; int64(len(orbit)) < preperiod+period; x = reduced(2*x.Num, x.Den) {
			orbit = append(orbit, x)
		}
		if len(orbit) > 64 {
			orbit, periods, wantCode = nil, nil, impl.ErrLimit
		}
		got, code := impl.OrbitOf(a)
		checkAngles(t, fmt.Sprintf("OrbitOf(%v)", a), got, code, orbit, wantCode)
		numbers, code := impl.PeriodsOf(a)
		checkNumbers(t, fmt.Sprintf("PeriodsOf(%v)", a), numbers, code, periods, wantCode)
	}
}

func TestOrbitsAtTheLimit(t *testing.T) {
	// 2 has the order 64 modulo 641, and the order 60 modulo 61.
	for _, c := range []struct {
		a                 impl.Angle
		preperiod, period int64
	}{
		{angle(1, 641), 0, 64}, {angle(640, 641), 0, 64}, {angle(1, 976), 4, 60}, {angle(15, 976), 4, 60},
	} {
		orbit, code := impl.OrbitOf(c.a)
		if len(orbit) != 64 || code != impl.ErrNone {
			t.Errorf("OrbitOf(%v): %d angles, code %d", c.a, len(orbit), code)
		}
		periods, code := impl.PeriodsOf(c.a)
		checkNumbers(t, fmt.Sprintf("PeriodsOf(%v)", c.a), periods, code, []int64{c.preperiod, c.period}, impl.ErrNone)
	}
	for _, a := range []impl.Angle{angle(1, 1282), angle(1, 1952), angle(1, 8179), angle(2, 67), angle(1, 67)} {
		orbit, code := impl.OrbitOf(a)
		checkAngles(t, fmt.Sprintf("OrbitOf(%v)", a), orbit, code, nil, impl.ErrLimit)
		periods, code := impl.PeriodsOf(a)
		checkNumbers(t, fmt.Sprintf("PeriodsOf(%v)", a), periods, code, nil, impl.ErrLimit)
		expansion, code := impl.ExpansionOf(a)
		checkSequence(t, fmt.Sprintf("ExpansionOf(%v)", a), expansion, code, sequence("", ""), impl.ErrLimit)
	}
	for _, bad := range notAngles() {
		orbit, code := impl.OrbitOf(bad)
		checkAngles(t, fmt.Sprintf("OrbitOf(%v)", bad), orbit, code, nil, impl.ErrInvalid)
		periods, code := impl.PeriodsOf(bad)
		checkNumbers(t, fmt.Sprintf("PeriodsOf(%v)", bad), periods, code, nil, impl.ErrInvalid)
	}
}

func TestPeriodsOf(t *testing.T) {
	for _, c := range []struct {
		a                 impl.Angle
		preperiod, period int64
	}{
		{angle(1, 6), 1, 2}, {angle(0, 1), 0, 1}, {angle(1, 2), 1, 1}, {angle(1, 7), 0, 3},
		{angle(5, 12), 2, 2}, {angle(1, 4096), 12, 1}, {angle(1, 8191), 0, 13}, {angle(1, 5), 0, 4},
	} {
		got, code := impl.PeriodsOf(c.a)
		checkNumbers(t, fmt.Sprintf("PeriodsOf(%v)", c.a), got, code, []int64{c.preperiod, c.period}, impl.ErrNone)
	}
}

func TestHalvesOf(t *testing.T) {
	for _, c := range []struct {
		a    impl.Angle
		want []impl.Angle
		code int64
	}{
		{angle(1, 7), []impl.Angle{angle(1, 14), angle(4, 7)}, impl.ErrNone},
		{angle(2, 7), []impl.Angle{angle(1, 7), angle(9, 14)}, impl.ErrNone},
		{angle(0, 1), []impl.Angle{angle(0, 1), angle(1, 2)}, impl.ErrNone},
		{angle(1, 2), []impl.Angle{angle(1, 4), angle(3, 4)}, impl.ErrNone},
		{angle(2, 3), []impl.Angle{angle(1, 3), angle(5, 6)}, impl.ErrNone},
		{angle(1, 4095), []impl.Angle{angle(1, 8190), angle(2048, 4095)}, impl.ErrNone},
		{angle(4094, 4095), []impl.Angle{angle(2047, 4095), angle(8189, 8190)}, impl.ErrNone},
		{angle(1, 4096), nil, impl.ErrLimit},
		{angle(4095, 4096), nil, impl.ErrLimit},
		{angle(1, 4097), nil, impl.ErrLimit},
		{angle(2, 4097), nil, impl.ErrLimit},
		{angle(4096, 4097), nil, impl.ErrLimit},
		{angle(1, 8191), nil, impl.ErrLimit},
		{angle(8190, 8191), nil, impl.ErrLimit},
	} {
		got, code := impl.HalvesOf(c.a)
		checkAngles(t, fmt.Sprintf("HalvesOf(%v)", c.a), got, code, c.want, c.code)
	}
	for _, bad := range notAngles() {
		got, code := impl.HalvesOf(bad)
		checkAngles(t, fmt.Sprintf("HalvesOf(%v)", bad), got, code, nil, impl.ErrInvalid)
	}
}

// TestArcsAndCyclicOrders holds arcs and orders against the steps forward on a circle of numbers.
func TestArcsAndCyclicOrders(t *testing.T) {
	const n = 12
	for i := int64(0); i < n; i++ {
		for j := int64(0); j < n; j++ {
			for k := int64(0); k < n; k++ {
				a, b, c := reduced(i, n), reduced(j, n), reduced(k, n)
				within := j != i && (j-i+n)%n < (k-i+n)%n
				want := int64(-1)
				if within {
					want = 1
				}
				if i == j || j == k || i == k {
					want = 0
				}
				order, code := impl.CyclicOrder(a, b, c)
				checkNumber(t, fmt.Sprintf("CyclicOrder(%v, %v, %v)", a, b, c), order, code, want, impl.ErrNone)
				answer, code := impl.IsWithin(b, a, c)
				wantCode := int64(impl.ErrNone)
				if i == k {
					within, wantCode = false, impl.ErrState
				}
				checkAnswer(t, fmt.Sprintf("IsWithin(%v, %v, %v)", b, a, c), answer, code, within, wantCode)
			}
		}
	}
}

func TestIsWithin(t *testing.T) {
	for _, c := range []struct {
		x, a, b impl.Angle
		want    bool
	}{
		{angle(1, 3), angle(1, 6), angle(1, 2), true},
		{angle(1, 3), angle(1, 2), angle(1, 6), false},
		{angle(0, 1), angle(1, 2), angle(1, 6), true},
		{angle(1, 6), angle(1, 6), angle(1, 2), false},
		{angle(1, 2), angle(1, 6), angle(1, 2), false},
		{angle(1, 2), angle(1, 2), angle(1, 6), false},
		{angle(1, 6), angle(1, 2), angle(1, 6), false},
		{angle(8189, 8190), angle(8188, 8189), angle(8190, 8191), true},
		{angle(8190, 8191), angle(8189, 8190), angle(0, 1), true},
		{angle(1, 8191), angle(0, 1), angle(1, 8190), true},
		{angle(1, 8190), angle(0, 1), angle(1, 8191), false},
	} {
		got, code := impl.IsWithin(c.x, c.a, c.b)
		checkAnswer(t, fmt.Sprintf("IsWithin(%v, %v, %v)", c.x, c.a, c.b), got, code, c.want, impl.ErrNone)
	}
	for _, x := range []impl.Angle{angle(1, 3), angle(1, 7)} {
		got, code := impl.IsWithin(x, angle(1, 3), angle(1, 3))
		checkAnswer(t, "IsWithin with equal ends", got, code, false, impl.ErrState)
	}
	for _, bad := range notAngles() {
		for _, c := range [][3]impl.Angle{
			{bad, angle(1, 6), angle(1, 2)}, {angle(1, 3), bad, angle(1, 2)}, {angle(1, 3), angle(1, 6), bad},
			{bad, angle(1, 6), angle(1, 6)}, {angle(1, 3), bad, bad}, {bad, bad, bad},
		} {
			got, code := impl.IsWithin(c[0], c[1], c[2])
			checkAnswer(t, fmt.Sprintf("IsWithin(%v)", c), got, code, false, impl.ErrInvalid)
		}
	}
}

func TestCyclicOrder(t *testing.T) {
	third, sixth, half := angle(1, 3), angle(1, 6), angle(1, 2)
	for _, c := range []struct {
		a, b, c impl.Angle
		want    int64
	}{
		{sixth, third, half, 1}, {third, half, sixth, 1}, {half, sixth, third, 1},
		{half, third, sixth, -1}, {third, sixth, half, -1}, {sixth, half, third, -1},
		{half, half, third, 0}, {half, third, half, 0}, {third, half, half, 0}, {half, half, half, 0},
	} {
		got, code := impl.CyclicOrder(c.a, c.b, c.c)
		checkNumber(t, fmt.Sprintf("CyclicOrder(%v, %v, %v)", c.a, c.b, c.c), got, code, c.want, impl.ErrNone)
	}
	for _, bad := range notAngles() {
		for _, c := range [][3]impl.Angle{
			{bad, third, half}, {third, bad, half}, {third, half, bad}, {bad, half, half}, {bad, bad, bad}, {half, bad, half},
		} {
			got, code := impl.CyclicOrder(c[0], c[1], c[2])
			checkNumber(t, fmt.Sprintf("CyclicOrder(%v)", c), got, code, 0, impl.ErrInvalid)
		}
	}
}

func TestDistanceOf(t *testing.T) {
	for _, c := range []struct {
		a, b, want impl.Angle
		code       int64
	}{
		{angle(5, 6), angle(1, 6), angle(1, 3), impl.ErrNone},
		{angle(1, 3), angle(1, 3), angle(0, 1), impl.ErrNone},
		{angle(0, 1), angle(0, 1), angle(0, 1), impl.ErrNone},
		{angle(0, 1), angle(1, 2), angle(1, 2), impl.ErrNone},
		{angle(0, 1), angle(3, 5), angle(2, 5), impl.ErrNone},
		{angle(0, 1), angle(2, 5), angle(2, 5), impl.ErrNone},
		{angle(1, 4), angle(2, 3), angle(5, 12), impl.ErrNone},
		{angle(1, 8191), angle(8190, 8191), angle(2, 8191), impl.ErrNone},
		{angle(1, 90), angle(1, 91), angle(1, 8190), impl.ErrNone},
		{angle(1, 4096), angle(1, 3), angle(0, 0), impl.ErrLimit},
		{angle(1, 8191), angle(1, 8190), angle(0, 0), impl.ErrLimit},
		{angle(8190, 8191), angle(1, 2), angle(0, 0), impl.ErrLimit},
	} {
		got, code := impl.DistanceOf(c.a, c.b)
		checkAngle(t, fmt.Sprintf("DistanceOf(%v, %v)", c.a, c.b), got, code, c.want, c.code)
		got, code = impl.DistanceOf(c.b, c.a)
		checkAngle(t, fmt.Sprintf("DistanceOf(%v, %v)", c.b, c.a), got, code, c.want, c.code)
	}
	for _, n := range []int64{12, 15, 97} {
		for i := range n {
			for j := range n {
				got, code := impl.DistanceOf(reduced(i, n), reduced(j, n))
				want := reduced(min((i-j+n)%n, (j-i+n)%n), n)
				checkAngle(t, fmt.Sprintf("DistanceOf(%d, %d) of %d", i, j, n), got, code, want, impl.ErrNone)
			}
		}
	}
	for _, bad := range notAngles() {
		got, code := impl.DistanceOf(bad, angle(1, 3))
		checkAngle(t, fmt.Sprintf("DistanceOf(%v, ..)", bad), got, code, angle(0, 0), impl.ErrInvalid)
		got, code = impl.DistanceOf(angle(1, 8191), bad)
		checkAngle(t, fmt.Sprintf("DistanceOf(.., %v)", bad), got, code, angle(0, 0), impl.ErrInvalid)
	}
}

func TestSortAngles(t *testing.T) {
	sorted := []impl.Angle{angle(0, 1), angle(1, 8191), angle(1, 8190), angle(1, 6), angle(1, 3), angle(1, 2), angle(2, 3), angle(8189, 8190), angle(8190, 8191)}
	for _, list := range [][]impl.Angle{
		sorted,
		{angle(1, 2), angle(8190, 8191), angle(1, 6), angle(1, 8191), angle(2, 3), angle(1, 8190), angle(1, 3), angle(8189, 8190), angle(0, 1)},
		slices.Concat(sorted, sorted),
		{angle(8190, 8191), angle(8189, 8190), angle(2, 3), angle(1, 2), angle(1, 2), angle(1, 3), angle(1, 6), angle(1, 3), angle(1, 8190), angle(1, 8191), angle(0, 1), angle(0, 1)},
	} {
		got, code := impl.SortAngles(list)
		checkAngles(t, fmt.Sprintf("SortAngles(%v)", list), got, code, sorted, impl.ErrNone)
	}
	got, code := impl.SortAngles([]impl.Angle{angle(1, 2), angle(1, 6), angle(1, 2)})
	checkAngles(t, "SortAngles", got, code, []impl.Angle{angle(1, 6), angle(1, 2)}, impl.ErrNone)
	for _, list := range [][]impl.Angle{nil, {}} {
		got, code := impl.SortAngles(list)
		checkAngles(t, "SortAngles of nothing", got, code, nil, impl.ErrNone)
	}
	many := anglesUpTo(96)
	got, code = impl.SortAngles(slices.Concat(many, many))
	if len(got) != len(many) || code != impl.ErrNone || !slices.IsSortedFunc(got, func(a, b impl.Angle) int { return int(a.Num*b.Den - b.Num*a.Den) }) {
		t.Errorf("SortAngles of %d angles: %d angles, code %d", len(many), len(got), code)
	}
	for _, bad := range notAngles() {
		for _, list := range [][]impl.Angle{{bad}, {angle(1, 3), bad}, {bad, angle(1, 3)}, {angle(1, 2), bad, angle(1, 3)}, {bad, bad}} {
			got, code := impl.SortAngles(list)
			checkAngles(t, fmt.Sprintf("SortAngles(%v)", list), got, code, nil, impl.ErrInvalid)
		}
	}
}

func TestSortAnglesLeavesItsArgument(t *testing.T) {
	for _, given := range [][]impl.Angle{
		{angle(1, 2), angle(1, 6), angle(1, 2), angle(0, 1)},
		{angle(1, 6), angle(1, 3), angle(1, 2), angle(2, 3)},
	} {
		list := slices.Concat(given, []impl.Angle{angle(4, 5), angle(1, 5)})
		before := slices.Clone(list)
		got, _ := impl.SortAngles(list[:4])
		if !slices.Equal(list, before) {
			t.Errorf("SortAngles has made %v of %v", list, before)
		}
		got = got[:cap(got)]
		for i := range got {
			got[i] = angle(7, 9)
		}
		if !slices.Equal(list, before) {
			t.Errorf("the result of SortAngles shares memory with its argument")
		}
	}
}

func TestResultsAreNew(t *testing.T) {
	orbit, _ := impl.OrbitOf(angle(1, 6))
	periods, _ := impl.PeriodsOf(angle(1, 6))
	halves, _ := impl.HalvesOf(angle(1, 6))
	for i := range orbit {
		orbit[i] = angle(7, 9)
	}
	for i := range halves {
		halves[i], periods[i] = angle(7, 9), 9
	}
	again, code := impl.OrbitOf(angle(1, 6))
	checkAngles(t, "OrbitOf again", again, code, []impl.Angle{angle(1, 6), angle(1, 3), angle(2, 3)}, impl.ErrNone)
	numbers, code := impl.PeriodsOf(angle(1, 6))
	checkNumbers(t, "PeriodsOf again", numbers, code, []int64{1, 2}, impl.ErrNone)
	again, code = impl.HalvesOf(angle(1, 6))
	checkAngles(t, "HalvesOf again", again, code, []impl.Angle{angle(1, 12), angle(7, 12)}, impl.ErrNone)
}

func TestAngleText(t *testing.T) {
	for _, c := range []struct {
		a    impl.Angle
		want string
	}{
		{angle(1, 6), "1/6"}, {angle(0, 1), "0/1"}, {angle(8190, 8191), "8190/8191"}, {angle(10, 1001), "10/1001"},
	} {
		got, code := impl.AngleText(c.a)
		checkText(t, fmt.Sprintf("AngleText(%v)", c.a), got, code, c.want, impl.ErrNone)
	}
	for _, bad := range notAngles() {
		got, code := impl.AngleText(bad)
		checkText(t, fmt.Sprintf("AngleText(%v)", bad), got, code, "", impl.ErrInvalid)
	}
}

func TestParseAngle(t *testing.T) {
	for _, c := range []struct {
		text string
		want impl.Angle
	}{
		{"1/6", angle(1, 6)}, {"0/1", angle(0, 1)}, {"8190/8191", angle(8190, 8191)}, {"1/8191", angle(1, 8191)}, {"10/101", angle(10, 101)},
	} {
		got, code := impl.ParseAngle(c.text)
		checkAngle(t, fmt.Sprintf("ParseAngle(%q)", c.text), got, code, c.want, impl.ErrNone)
	}
	for _, text := range []string{
		"", "1", "/", "1/", "/6", "0", "1/6/", "1//6", "1/6/7", "/1/6", "2/6", "0/2", "1/1", "6/6", "7/6", "1/0", "0/0",
		"01/6", "1/06", "00/1", "0/01", "+1/6", "1/+6", "-1/6", "1/-6", "-1/-6", "-0/1", "+0/1", " 1/6", "1/6 ", "1 /6", "1/ 6", "1/6\n", "\n1/6",
		"1/8192", "1/8193", "8191/8192", "1/99999999999999999999", "99999999999999999999/7", "18446744073709551617/6",
		"9223372036854775807/9223372036854775808", "-9223372036854775808/7", "0x1/6", "1/0x6", "1_0/11", "1e0/6", "1.0/6", "a/b", "１/６", "1/6\x00", "1:6",
	} {
		got, code := impl.ParseAngle(text)
		checkAngle(t, fmt.Sprintf("ParseAngle(%q)", text), got, code, angle(0, 0), impl.ErrSyntax)
	}
}

// TestParseAngleOfShortTexts holds all short texts against those that angles have.
func TestParseAngleOfShortTexts(t *testing.T) {
	known := map[string]impl.Angle{}
	for _, a := range anglesUpTo(666) {
		known[fmt.Sprintf("%d/%d", a.Num, a.Den)] = a
	}
	for _, text := range words("01236/-+ ", 0, 5) {
		want, ok := known[text]
		wantCode := int64(impl.ErrSyntax)
		if ok {
			wantCode = impl.ErrNone
		}
		got, code := impl.ParseAngle(text)
		checkAngle(t, fmt.Sprintf("ParseAngle(%q)", text), got, code, want, wantCode)
	}
}
