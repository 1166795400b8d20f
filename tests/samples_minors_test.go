package tests

import (
	"maps"
	"math/big"
	"slices"

	"loop.example/g01234/impl"
)

// lengthByHand returns the length of a leaf, whatever its denominator is.
func lengthByHand(l impl.Leaf) *big.Rat {
	forward := big.NewRat(l.Second.Num, l.Second.Den)
	forward.Sub(forward, big.NewRat(l.First.Num, l.First.Den))
	back := new(big.Rat).Sub(big.NewRat(1, 1), forward)
	if forward.Cmp(back) > 0 {
		return back
	}
	return forward
}

// isLongByHand reports whether a leaf is longer than 1/3.
func isLongByHand(l impl.Leaf) bool {
	return lengthByHand(l).Cmp(big.NewRat(1, 3)) > 0
}

// forwardEnds returns the ends of a leaf that is no diameter, first the one from which one goes
// forward its length to the other one.
func forwardEnds(m impl.Leaf) (impl.Angle, impl.Angle) {
	straight := new(big.Rat).Sub(big.NewRat(m.Second.Num, m.Second.Den), big.NewRat(m.First.Num, m.First.Den))
	if straight.Cmp(lengthByHand(m)) != 0 {
		return m.Second, m.First
	}
	return m.First, m.Second
}

// majorsByHand returns the majors of a leaf, whose ends may have a Den that is too great, in order.
func majorsByHand(m impl.Leaf) []impl.Leaf {
	from, to := forwardEnds(m)
	a, b := halvesByHand(from), halvesByHand(to)
	list := []impl.Leaf{joined(b[0], a[1]), joined(a[0], b[1])}
	slices.SortFunc(list, orderLeavesByHand)
	return list
}

// isTooFine reports whether an end of one of some leaves has a Den greater than MaxDen.
func isTooFine(list []impl.Leaf) bool {
	return slices.ContainsFunc(list, func(l impl.Leaf) bool { return l.First.Den > 8191 || l.Second.Den > 8191 })
}

// crossesAny reports whether a leaf crosses one of some others.
func crossesAny(l impl.Leaf, list []impl.Leaf) bool {
	return slices.ContainsFunc(list, func(m impl.Leaf) bool { return crossByHand(l, m) })
}

// conditionByHand returns what ConditionThatFails has to return for a leaf.
func conditionByHand(m impl.Leaf) (int64, int64) {
	if isLongByHand(m) {
		return 1, impl.ErrNone
	}
	images, majors := imagesByHand(m), majorsByHand(m)
	if len(images) > 64 || isTooFine(majors) {
		return 0, impl.ErrLimit
	}
	for _, l := range images {
		if crossesAny(l, images) {
			return 2, impl.ErrNone
		}
	}
	for _, l := range images {
		if lengthByHand(l).Cmp(lengthByHand(m)) < 0 {
			return 3, impl.ErrNone
		}
	}
	for _, l := range majors {
		if crossesAny(l, images) {
			return 4, impl.ErrNone
		}
	}
	return 0, impl.ErrNone
}

// pulledBackByHand returns what arises when a leaf is pulled back by a minor leaf, and a code.
func pulledBackByHand(l, m impl.Leaf) ([]impl.Leaf, int64) {
	majors := majorsByHand(m)
	if l == m {
		return majors, impl.ErrNone
	}
	first, second := halvesByHand(l.First), halvesByHand(l.Second)
	across := []impl.Leaf{joined(first[0], second[1]), joined(first[1], second[0])}
	alike := []impl.Leaf{joined(first[0], second[0]), joined(first[1], second[1])}
	if isTooFine(across) {
		return nil, impl.ErrLimit
	}
	var taken []impl.Leaf
	var least *big.Rat
	for _, way := range [][]impl.Leaf{across, alike} {
		sum := new(big.Rat).Add(lengthByHand(way[0]), lengthByHand(way[1]))
		if !crossesAny(way[0], majors) && !crossesAny(way[1], majors) && (least == nil || sum.Cmp(least) < 0) {
			taken, least = way, sum
		}
	}
	if taken == nil {
		return nil, impl.ErrState
	}
	slices.SortFunc(taken, orderLeavesByHand)
	return taken, impl.ErrNone
}

// askedByHand returns what PullBackBy has to return for two leaves.
func askedByHand(l, m impl.Leaf) ([]impl.Leaf, int64) {
	condition, code := conditionByHand(m)
	switch {
	case code != impl.ErrNone:
		return nil, code
	case condition != 0:
		return nil, impl.ErrState
	}
	return pulledBackByHand(l, m)
}

// growByHand returns the laminations of a minor leaf up to the depths 0, 1 and so on, and a code:
// ErrNone if they go up to the depth k, or that for which there are no more. There are at most so
// many leaves as most tells.
func growByHand(m impl.Leaf, k int64, most int) ([][]impl.Leaf, int64) {
	in := map[impl.Leaf]bool{}
	for _, l := range append(imagesByHand(m), majorsByHand(m)...) {
		in[l] = true
	}
	sorted := func() []impl.Leaf { return slices.SortedFunc(maps.Keys(in), orderLeavesByHand) }
	list := [][]impl.Leaf{sorted()}
	for range k {
		for _, l := range list[len(list)-1] {
			pulled, code := pulledBackByHand(l, m)
			if code != impl.ErrNone {
				return list, code
			}
			for _, p := range pulled {
				if !crossesAny(p, slices.Collect(maps.Keys(in))) {
					in[p] = true
				}
			}
			if len(in) > most {
				return list, impl.ErrLimit
			}
		}
		list = append(list, sorted())
	}
	return list, impl.ErrNone
}

// classesByHand returns the classes of a lamination: from each end that has not been met one goes
// along leaves to all others that can be met.
func classesByHand(list []impl.Leaf) [][]impl.Angle {
	classes := [][]impl.Angle{}
	met := map[impl.Angle]bool{}
	for _, start := range endsByHand(list) {
		if met[start] {
			continue
		}
		class := []impl.Angle{start}
		met[start] = true
		for i := 0; i < len(class); i++ {
			for _, l := range list {
				for _, ends := range [][2]impl.Angle{{l.First, l.Second}, {l.Second, l.First}} {
					if ends[0] == class[i] && !met[ends[1]] {
						met[ends[1]] = true
						class = append(class, ends[1])
					}
				}
			}
		}
		slices.SortFunc(class, orderByHand)
		classes = append(classes, class)
	}
	return classes
}

// isCarriedByHand reports whether each image of a leaf of a list that is no diameter is in it.
func isCarriedByHand(list []impl.Leaf) bool {
	return !slices.ContainsFunc(list, func(l impl.Leaf) bool {
		return !halfTurnApart(l) && !slices.Contains(list, imageByHand(l))
	})
}
