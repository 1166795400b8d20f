package tests

import (
	"slices"
	"testing"

	"loop.example/g01234/impl"
)

// leaf writes a leaf of a/b and c/d shortly; it is not checked, so that what is no leaf can be
// written, too.
func leaf(a, b, c, d int64) impl.Leaf {
	return impl.Leaf{First: angle(a, b), Second: angle(c, d)}
}

// orderByHand orders fractions by their sizes; they need not be reduced.
func orderByHand(a, b impl.Angle) int {
	return int(a.Num*b.Den - b.Num*a.Den)
}

// orderLeavesByHand orders leaves by their First, and then by their Second.
func orderLeavesByHand(l, m impl.Leaf) int {
	if l.First != m.First {
		return orderByHand(l.First, m.First)
	}
	return orderByHand(l.Second, m.Second)
}

// joined returns the leaf of two different angles, found without the program.
func joined(a, b impl.Angle) impl.Leaf {
	if orderByHand(a, b) > 0 {
		a, b = b, a
	}
	return impl.Leaf{First: a, Second: b}
}

// isInside reports whether x lies strictly between First and Second of a leaf.
func isInside(x impl.Angle, l impl.Leaf) bool {
	return orderByHand(l.First, x) < 0 && orderByHand(x, l.Second) < 0
}

// isOutside reports whether x is neither an end of a leaf nor between them.
func isOutside(x impl.Angle, l impl.Leaf) bool {
	return orderByHand(x, l.First) < 0 || orderByHand(l.Second, x) < 0
}

// crossByHand reports whether two leaves cross: one end of m lies inside l, and the other one
// outside.
func crossByHand(l, m impl.Leaf) bool {
	return isInside(m.First, l) && isOutside(m.Second, l) || isInside(m.Second, l) && isOutside(m.First, l)
}

// halfTurnApart reports whether a leaf is a diameter.
func halfTurnApart(l impl.Leaf) bool {
	return 2*(l.Second.Num*l.First.Den-l.First.Num*l.Second.Den) == l.First.Den*l.Second.Den
}

// notLeaves returns structs that are no leaves, each for a reason of its own.
func notLeaves() []impl.Leaf {
	list := []impl.Leaf{
		{}, leaf(2, 7, 1, 7), leaf(1, 7, 1, 7), leaf(0, 1, 0, 1), leaf(1, 2, 0, 1), leaf(1, 2, 1, 3),
		leaf(1, 8190, 1, 8191), leaf(8190, 8191, 0, 1), leaf(1, 7, 2, 14), leaf(2, 14, 2, 7), leaf(0, 1, 2, 4),
	}
	for _, bad := range notAngles() {
		list = append(list, impl.Leaf{First: bad, Second: angle(8190, 8191)}, impl.Leaf{First: angle(0, 1), Second: bad}, impl.Leaf{First: bad, Second: bad})
	}
	return list
}

// leavesOf returns all leaves that join two of some angles in ascending order, in order.
func leavesOf(ends []impl.Angle) []impl.Leaf {
	list := []impl.Leaf{}
	for i, a := range ends {
		for _, b := range ends[i+1:] {
			list = append(list, impl.Leaf{First: a, Second: b})
		}
	}
	return list
}

// leavesUpTo returns all leaves of angles with a Den of at most n, in order.
func leavesUpTo(n int64) []impl.Leaf {
	ends := anglesUpTo(n)
	slices.SortFunc(ends, orderByHand)
	return leavesOf(ends)
}

// farLeaves returns leaves with ends whose Den is great.
func farLeaves() []impl.Leaf {
	return []impl.Leaf{
		leaf(0, 1, 1, 8191), leaf(0, 1, 8190, 8191), leaf(1, 8191, 1, 8190), leaf(1, 8191, 8190, 8191), leaf(1, 8190, 2048, 4095),
		leaf(4095, 8191, 1, 2), leaf(1, 2, 4096, 8191), leaf(4095, 8191, 4096, 8191), leaf(8189, 8190, 8190, 8191), leaf(1, 4096, 2049, 4096),
		leaf(0, 1, 1, 641), leaf(1, 641, 640, 641), leaf(0, 1, 1, 1282), leaf(1, 8179, 2, 8179), leaf(1, 4096, 1, 4095), leaf(1, 4095, 4094, 4095),
	}
}

// diametersUpTo returns all diameters of angles with a Den of at most n, in order.
func diametersUpTo(n int64) []impl.Leaf {
	return slices.DeleteFunc(leavesUpTo(n), func(l impl.Leaf) bool { return !halfTurnApart(l) })
}

// sixPoints returns six angles in ascending order, some of them next to each other.
func sixPoints() []impl.Angle {
	return []impl.Angle{angle(0, 1), angle(1, 8191), angle(1, 7), angle(1, 3), angle(1, 2), angle(8190, 8191)}
}

// leafLists returns all lists, in order, of leaves that join two of some angles in ascending order,
// and whether no two of each list cross.
func leafLists(ends []impl.Angle) ([][]impl.Leaf, []bool) {
	lists, free := [][]impl.Leaf{{}}, []bool{true}
	for _, l := range leavesOf(ends) {
		for i, list := range lists[:len(lists):len(lists)] {
			crosses := slices.ContainsFunc(list, func(m impl.Leaf) bool { return crossByHand(l, m) })
			lists = append(lists, append(slices.Clone(list), l))
			free = append(free, free[i] && !crosses)
		}
	}
	return lists, free
}

// laminationsOf returns all laminations with leaves that join two of some angles in ascending
// order, found without the program.
func laminationsOf(ends []impl.Angle) [][]impl.Leaf {
	laminations := [][]impl.Leaf{}
	lists, free := leafLists(ends)
	for i, list := range lists {
		if free[i] {
			laminations = append(laminations, list)
		}
	}
	return laminations
}

// fan returns the lamination with n leaves from 0, n less than 401.
func fan(n int64) []impl.Leaf {
	list := []impl.Leaf{}
	for k := int64(1); k <= n; k++ {
		list = append(list, leaf(0, 1, k, 401))
	}
	return list
}

// ladder returns the lamination with n leaves without common ends, one inside the other, n at most
// 200.
func ladder(n int64) []impl.Leaf {
	list := []impl.Leaf{}
	for k := int64(1); k <= n; k++ {
		list = append(list, leaf(k, 401, 401-k, 401))
	}
	return list
}

// teeth returns the lamination with n leaves without common ends, one beside the other, n at most
// 200.
func teeth(n int64) []impl.Leaf {
	list := []impl.Leaf{}
	for k := range n {
		list = append(list, leaf(2*k+1, 401, 2*k+2, 401))
	}
	return list
}

// corners returns the n angles k/n, in order.
func corners(n int64) []impl.Angle {
	list := []impl.Angle{}
	for k := range n {
		list = append(list, reduced(k, n))
	}
	return list
}

// filled returns a lamination with at most n leaves of some angles in ascending order: one begins
// with the leaf with a number, goes on in equal steps, and takes what crosses nothing.
func filled(ends []impl.Angle, first, step, n int) []impl.Leaf {
	list := []impl.Leaf{}
	leaves := leavesOf(ends)
	for i := range leaves {
		l := leaves[(first+i*step)%len(leaves)]
		taken := slices.ContainsFunc(list, func(m impl.Leaf) bool { return l == m || crossByHand(l, m) })
		if !taken && len(list) < n {
			list = append(list, l)
		}
	}
	slices.SortFunc(list, orderLeavesByHand)
	return list
}

// largeLaminations returns laminations with up to MaxLeaves leaves.
func largeLaminations() [][]impl.Leaf {
	list := [][]impl.Leaf{fan(199), fan(200), ladder(199), ladder(200), teeth(199), teeth(200)}
	for _, n := range []int64{20, 40, 104} {
		for _, step := range []int{1, 7, 101} {
			list = append(list, filled(corners(n), 3*step, step, 200), filled(corners(n), 11*step, 3*step, int(n)/3))
		}
	}
	few := anglesUpTo(12)
	slices.SortFunc(few, orderByHand)
	return append(list, filled(few, 5, 7, 200), filled(few, 100, 31, 200), filled(few, 3, 17, 20))
}

// notLaminations returns lists that are no laminations, each for a reason of its own.
func notLaminations() [][]impl.Leaf {
	l, m := leaf(1, 7, 2, 7), leaf(3, 7, 4, 7)
	lists := [][]impl.Leaf{
		{m, l}, {l, l}, {l, m, m}, {leaf(0, 1, 1, 2), leaf(0, 1, 1, 3)}, {leaf(0, 1, 1, 3), leaf(1, 3, 2, 3), leaf(0, 1, 2, 3)},
		{leaf(1, 7, 3, 7), leaf(2, 7, 4, 7)}, {leaf(0, 1, 1, 2), leaf(1, 4, 3, 4)}, {leaf(0, 1, 2, 3), leaf(1, 3, 1, 2), leaf(1, 2, 5, 6)},
		{leaf(0, 1, 1, 2), leaf(0, 1, 2, 3), leaf(1, 3, 3, 4)}, fan(201), append(fan(200), leaf(1, 2, 2, 3)), fan(400),
	}
	for _, bad := range notLeaves() {
		lists = append(lists, []impl.Leaf{bad}, []impl.Leaf{l, bad}, []impl.Leaf{bad, m})
	}
	return lists
}

// arcPoints returns a point of each arc between two neighbours of some angles in ascending order,
// not reduced, and the two ends of each arc beside it.
func arcPoints(ends []impl.Angle) ([]impl.Angle, [][]impl.Angle) {
	points, arcs := []impl.Angle{}, [][]impl.Angle{}
	for i, a := range ends {
		b := ends[(i+1)%len(ends)]
		den := 2 * a.Den * b.Den
		num := a.Num*b.Den + b.Num*a.Den
		if i+1 == len(ends) {
			num += a.Den * b.Den
		}
		points = append(points, angle(num%den, den))
		arcs = append(arcs, []impl.Angle{a, b})
	}
	return points, arcs
}

// endsByHand returns the ends of all leaves of a list, in ascending order.
func endsByHand(list []impl.Leaf) []impl.Angle {
	ends := []impl.Angle{}
	for _, l := range list {
		ends = append(ends, l.First, l.Second)
	}
	slices.SortFunc(ends, orderByHand)
	return slices.Compact(ends)
}

// placeOf tells for each leaf of a lamination whether a point is inside or outside; two points are
// in one gap if this is the same for both.
func placeOf(list []impl.Leaf, x impl.Angle) string {
	place := []byte{}
	for _, l := range list {
		if isInside(x, l) {
			place = append(place, 'i')
		} else {
			place = append(place, 'o')
		}
	}
	return string(place)
}

// cornersByPlace returns for each place in a lamination the corners of the gap there, found without
// a walk: they are the ends of the arcs and of the sides of leaves that are there.
func cornersByPlace(list []impl.Leaf) map[string][]impl.Angle {
	found := map[string][]impl.Angle{}
	points, arcs := arcPoints(endsByHand(list))
	for i, x := range points {
		place := placeOf(list, x)
		found[place] = append(found[place], arcs[i]...)
	}
	for i, l := range list {
		place := []byte{}
		for _, m := range list {
			if isInside(l.First, m) || isInside(l.Second, m) {
				place = append(place, 'i')
			} else {
				place = append(place, 'o')
			}
		}
		for _, itself := range []byte("io") {
			place[i] = itself
			found[string(place)] = append(found[string(place)], l.First, l.Second)
		}
	}
	for place, list := range found {
		slices.SortFunc(list, orderByHand)
		found[place] = slices.Compact(list)
	}
	return found
}

// gapsByHand returns the gaps of a lamination, found without a walk.
func gapsByHand(list []impl.Leaf) [][]impl.Angle {
	if len(list) == 0 {
		return [][]impl.Angle{{}}
	}
	gaps := [][]impl.Angle{}
	for _, corners := range cornersByPlace(list) {
		gaps = append(gaps, corners)
	}
	slices.SortFunc(gaps, func(a, b []impl.Angle) int { return slices.CompareFunc(a, b, orderByHand) })
	return gaps
}

// roomy returns a copy of a list with room behind it, and the whole of the memory of both.
func roomy[T any](list []T, rest T) ([]T, []T) {
	whole := append(slices.Clone(list), rest, rest, rest)
	return whole[:len(list)], whole
}

// overwrite writes into a list and into the room behind it.
func overwrite[T any](list []T, with T) {
	for i := range list[:cap(list)] {
		list[:cap(list)][i] = with
	}
}

func checkLeaf(t *testing.T, what string, got impl.Leaf, code int64, want impl.Leaf, wantCode int64) {
	t.Helper()
	if got != want || code != wantCode {
		t.Errorf("%s: got %v, %d; want %v, %d", what, got, code, want, wantCode)
	}
}

func checkLeaves(t *testing.T, what string, got []impl.Leaf, code int64, want []impl.Leaf, wantCode int64) {
	t.Helper()
	if !slices.Equal(got, want) || code != wantCode {
		t.Errorf("%s: got %v, %d; want %v, %d", what, got, code, want, wantCode)
	}
}

func checkGaps(t *testing.T, what string, got [][]impl.Angle, code int64, want [][]impl.Angle, wantCode int64) {
	t.Helper()
	if !slices.EqualFunc(got, want, slices.Equal[[]impl.Angle]) || code != wantCode {
		t.Errorf("%s: got %v, %d; want %v, %d", what, got, code, want, wantCode)
	}
}
