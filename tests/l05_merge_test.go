package tests

import (
	"fmt"
	"math"
	"slices"
	"testing"

	"loop.example/g01204/impl"
)

// merged merges two maps that can be merged.
func merged(t *testing.T, m, n impl.LandMap) impl.LandMap {
	t.Helper()
	got, code := impl.MergeMaps(m, n)
	wantCode(t, startOf("MergeMaps ", m, n), code, impl.OK)
	wantBool(t, startOf("ValidMap of what MergeMaps made of ", m, n), impl.ValidMap(got), true)
	return got
}

func wantMergedMap(t *testing.T, what string, m, n impl.LandMap, want ...impl.Mark) {
	t.Helper()
	for _, got := range []impl.LandMap{merged(t, m, n), merged(t, n, m)} {
		wantMap(t, "MergeMaps, "+what, got, impl.OK, impl.LandMap{Side: m.Side, Marks: want}, impl.OK)
	}
}

func TestMergedMaps(t *testing.T) {
	a, b, c := plainMark(-1, 0, 0), plainMark(0, 0, 0), plainMark(0, 0, 1)
	wantMergedMap(t, "none", mapOf(), mapOf())
	wantMergedMap(t, "one side", mapOf(a, b), mapOf(), a, b)
	wantMergedMap(t, "one between two", mapOf(a, c), mapOf(b), a, b, c)
	wantMergedMap(t, "some of both", mapOf(a, b), mapOf(b, c), a, b, c)
	wantMergedMap(t, "the same", mapOf(a, b, c), mapOf(a, b, c), a, b, c)
	later, heavier, seen, beside, zero, minus := b, b, b, b, b, b
	later.Last, later.Weight, later.Seen = 6, 0.5, 1
	heavier.Weight, heavier.At[0] = 2, -9
	seen.Seen, seen.At[0] = 2, -9
	beside.At[0] = 0.75
	zero.At[1], minus.At[1] = 0, minusZero
	order := []impl.Mark{minus, zero, b, beside, seen, heavier, later} // each one better than all before it
	for i, x := range order {
		for k, y := range order {
			wantMergedMap(t, fmt.Sprint("marks ", i, " and ", k), mapOf(a, x), mapOf(y, c), a, order[max(i, k)], c)
		}
	}
	tall := impl.LandMap{Side: 3, Marks: []impl.Mark{a}}
	wantMergedMap(t, "another side", tall, impl.LandMap{Side: 3, Marks: []impl.Mark{b}}, a, b)
}

func wantUnmerged(t *testing.T, what string, m, n impl.LandMap, want int64) {
	t.Helper()
	got, code := impl.MergeMaps(m, n)
	wantMap(t, "MergeMaps, "+what, got, code, impl.LandMap{}, want)
}

func TestMapsThatAreNotMerged(t *testing.T) {
	full := fullMap()
	more := mapOf(plainMark(199, 0, 0), plainMark(200, 0, 0))
	wantUnmerged(t, "one too many", full, more, impl.ErrLimit)
	wantUnmerged(t, "one too many", more, full, impl.ErrLimit)
	wantMergedMap(t, "just not too many", full, mapOf(full.Marks[7:]...), full.Marks...)
	wantMergedMap(t, "just not too many", mapOf(full.Marks[:100]...), mapOf(full.Marks[100:]...), full.Marks...)
	wantUnmerged(t, "many too many", full, mapOf(plainMark(-1, 0, 0), plainMark(0, 0, 1)), impl.ErrLimit)
	for _, side := range []float32{2, math.Nextafter32(1, 2), math.Nextafter32(1, 0), tiniest} {
		for _, n := range []impl.LandMap{{Side: side}, {Side: side, Marks: full.Marks}, {Side: side, Marks: more.Marks}} {
			wantUnmerged(t, "sides", full, n, impl.ErrState)
			wantUnmerged(t, "sides", n, full, impl.ErrState)
			wantUnmerged(t, "sides", mapOf(), n, impl.ErrState)
			list, code := impl.UnlikeCells(full, n)
			wantPlaces(t, "UnlikeCells, sides", list, code, nil, impl.ErrState)
			list, code = impl.UnlikeCells(n, mapOf())
			wantPlaces(t, "UnlikeCells, sides", list, code, nil, impl.ErrState)
		}
	}
	each(badMaps(), func(what string, bad impl.LandMap) {
		for _, n := range []impl.LandMap{mapOf(), full, {Side: 2}, bad} {
			wantUnmerged(t, what, bad, n, impl.ErrInvalid)
			wantUnmerged(t, what, n, bad, impl.ErrInvalid)
			list, code := impl.UnlikeCells(bad, n)
			wantPlaces(t, "UnlikeCells, "+what, list, code, nil, impl.ErrInvalid)
			list, code = impl.UnlikeCells(n, bad)
			wantPlaces(t, "UnlikeCells, "+what, list, code, nil, impl.ErrInvalid)
		}
	})
}

// TestMergingKnowsNoOrder merges three maps in all orders, and some of them twice.
func TestMergingKnowsNoOrder(t *testing.T) {
	d := &dice{seed: 170}
	for range 1000 {
		side := d.aSide()
		l := d.aMap(side, 30)
		m, n := d.like(l), d.like(d.aMap(side, 30))
		all := merged(t, merged(t, l, m), n)
		for _, other := range []impl.LandMap{
			merged(t, l, merged(t, m, n)), merged(t, merged(t, n, m), l), merged(t, merged(t, m, l), n), merged(t, m, merged(t, n, l)),
			merged(t, all, l), merged(t, n, all), merged(t, all, all), merged(t, merged(t, all, m), m), merged(t, merged(t, l, l), merged(t, n, m)),
		} {
			wantMap(t, startOf("another order of ", l, m, n), other, impl.OK, all, impl.OK)
		}
		for _, x := range slices.Concat(l.Marks, m.Marks, n.Marks) {
			y, code := impl.MarkIn(all, x.Cell)
			wantBool(t, fmt.Sprint("the mark or a better one: ", x, y, code), code == impl.OK && orderOfMarks(y, x) >= 0, true)
		}
		wantMap(t, "no marks", merged(t, l, impl.LandMap{Side: side}), impl.OK, l, impl.OK)
	}
}

func TestMergedMapsAgain(t *testing.T) {
	d := &dice{seed: 171}
	found := map[int64]int{}
	for range 1200 {
		side := d.aSide()
		m := d.aMap(side, 200)
		n := d.aMap(side, 200)
		if d.below(2) == 0 {
			n = d.like(m)
		}
		if d.below(9) == 0 {
			n.Side = d.aSide()
		}
		if d.below(6) == 0 {
			n.Marks, m.Marks = d.row(150+d.below(51)), d.row(150+d.below(51))
			n.Marks[0].Cell[0] = -int32(d.below(3))
		}
		want, wanted := mergedMaps(m, n)
		got, code := impl.MergeMaps(m, n)
		wantMap(t, startOf("MergeMaps ", m, n), got, code, want, wanted)
		found[code]++
		places, wanted := unlikeCells(m, n)
		list, code := impl.UnlikeCells(m, n)
		wantPlaces(t, startOf("UnlikeCells ", m, n), list, code, places, wanted)
	}
	if found[impl.OK] < 800 || found[impl.ErrState] < 50 || found[impl.ErrLimit] < 50 {
		t.Errorf("too few of a kind: %v", found)
	}
}

// row returns marks in neighbouring cells, beginning near 0.
func (d *dice) row(count int) []impl.Mark {
	var list []impl.Mark
	first := int32(d.below(40))
	for k := range int32(count) {
		x := d.aMark(1)
		x.Cell = impl.Place{first + k, 0, 0}
		list = append(list, x)
	}
	return list
}

func TestUnlikeCells(t *testing.T) {
	a, b, c := plainMark(-1, 0, 0), plainMark(0, 0, 0), plainMark(0, 0, 1)
	changes := []func(x *impl.Mark){
		func(x *impl.Mark) { x.At[0] = 0.25 }, func(x *impl.Mark) { x.At[2] = 0.25 }, func(x *impl.Mark) { x.Weight = 2 },
		func(x *impl.Mark) { x.Seen = 2 }, func(x *impl.Mark) { x.Last = 6 },
	}
	both := func(what string, m, n impl.LandMap, want ...impl.Place) {
		t.Helper()
		list, code := impl.UnlikeCells(m, n)
		wantPlaces(t, "UnlikeCells, "+what, list, code, want, impl.OK)
		list, code = impl.UnlikeCells(n, m)
		wantPlaces(t, "UnlikeCells, the other way round, "+what, list, code, want, impl.OK)
	}
	both("none", mapOf(), mapOf())
	both("the same", mapOf(a, b, c), mapOf(a, b, c))
	both("all of one", mapOf(a, b, c), mapOf(), a.Cell, b.Cell, c.Cell)
	both("one more", mapOf(a, b, c), mapOf(a, c), b.Cell)
	both("one more each", mapOf(a, b), mapOf(b, c), a.Cell, c.Cell)
	both("all in turn", mapOf(a, c), mapOf(b), a.Cell, b.Cell, c.Cell)
	for i, change := range changes {
		other := b
		change(&other)
		both(fmt.Sprint("change ", i), mapOf(a, b, c), mapOf(a, other, c), b.Cell)
		both(fmt.Sprint("change ", i, ", and one more"), mapOf(a, b), mapOf(other, c), a.Cell, b.Cell, c.Cell)
	}
	zero, minus := b, b
	zero.At[1], minus.At[1] = 0, minusZero
	both("0 and -0", mapOf(zero), mapOf(minus), b.Cell)
	full := fullMap()
	other := mapOf(slices.Clone(full.Marks)...)
	for i := range other.Marks {
		other.Marks[i].Cell[1] = 7
	}
	list, code := impl.UnlikeCells(full, other)
	wantCode(t, "UnlikeCells of full maps", code, impl.OK)
	wantBool(t, fmt.Sprint("400 cells in order: ", len(list)), len(list) == 400 && slices.IsSortedFunc(list, orderOfPlaces), true)
}

func TestOldMarksAreForgotten(t *testing.T) {
	a, b, c, e := plainMark(-1, 0, 0), plainMark(0, 0, 0), plainMark(0, 0, 1), plainMark(1, 0, 0)
	a.Last, b.Last, c.Last, e.Last = 5, 0, 1000000000, 6
	m := mapOf(a, b, c, e)
	for _, at := range []struct {
		time int64
		want []impl.Mark
	}{
		{0, m.Marks}, {1, []impl.Mark{a, c, e}}, {5, []impl.Mark{a, c, e}}, {6, []impl.Mark{c, e}}, {7, []impl.Mark{c}}, {1000000000, []impl.Mark{c}},
	} {
		got, code := impl.ForgetBefore(m, at.time)
		wantMap(t, fmt.Sprint("ForgetBefore ", at.time), got, code, mapOf(at.want...), impl.OK)
		got, code = impl.ForgetBefore(impl.LandMap{Side: 3}, at.time)
		wantMap(t, "ForgetBefore, no marks", got, code, impl.LandMap{Side: 3}, impl.OK)
	}
	for _, time := range noTimes() {
		got, code := impl.ForgetBefore(m, time)
		wantMap(t, fmt.Sprint("ForgetBefore ", time), got, code, impl.LandMap{}, impl.ErrRange)
		got, code = impl.ForgetBefore(mapOf(), time)
		wantMap(t, fmt.Sprint("ForgetBefore, no marks, ", time), got, code, impl.LandMap{}, impl.ErrRange)
	}
	each(badMaps(), func(what string, m impl.LandMap) {
		for _, time := range []int64{0, 5, -1, 1000000001} {
			got, code := impl.ForgetBefore(m, time)
			wantMap(t, "ForgetBefore, "+what, got, code, impl.LandMap{}, impl.ErrInvalid)
		}
	})
}

func TestLighterMarksAreLeft(t *testing.T) {
	a, b, c, e := plainMark(-1, 0, 0), plainMark(0, 0, 0), plainMark(0, 0, 1), plainMark(1, 0, 0)
	a.Weight, b.Weight, c.Weight, e.Weight = 1, tiniest, greatest, 2
	m := mapOf(a, b, c, e)
	for _, at := range []struct {
		weight float32
		want   []impl.Mark
	}{
		{-infinite, m.Marks}, {-1, m.Marks}, {0, m.Marks}, {minusZero, m.Marks}, {tiniest, m.Marks}, {2 * tiniest, []impl.Mark{a, c, e}}, {1, []impl.Mark{a, c, e}},
		{1.5, []impl.Mark{c, e}}, {2, []impl.Mark{c, e}}, {2.5, []impl.Mark{c}}, {greatest, []impl.Mark{c}}, {infinite, nil},
	} {
		got, code := impl.LeaveLighter(m, at.weight)
		wantMap(t, fmt.Sprint("LeaveLighter ", at.weight), got, code, mapOf(at.want...), impl.OK)
	}
	for _, weight := range []float32{nan, otherNaN} {
		for _, m := range []impl.LandMap{m, mapOf()} {
			got, code := impl.LeaveLighter(m, weight)
			wantMap(t, "LeaveLighter, NaN", got, code, impl.LandMap{}, impl.ErrRange)
		}
	}
	each(badMaps(), func(what string, m impl.LandMap) {
		for _, weight := range []float32{0, 1, nan, infinite} {
			got, code := impl.LeaveLighter(m, weight)
			wantMap(t, "LeaveLighter, "+what, got, code, impl.LandMap{}, impl.ErrInvalid)
		}
	})
}

func wantCentre(t *testing.T, what string, m impl.LandMap, want impl.Vec) {
	t.Helper()
	got, code := impl.CentreOf(m)
	wantVecCode(t, startOf("CentreOf, ", what, m), got, code, want, impl.OK)
}

// heavyMark is a mark with a weight at a point, in a cell of its own.
func heavyMark(k int32, weight float32, at impl.Vec) impl.Mark {
	return impl.Mark{Cell: impl.Place{k, 0, 0}, At: at, Weight: weight, Seen: 1}
}

func TestCentres(t *testing.T) {
	wantCentre(t, "one", mapOf(heavyMark(0, 3, impl.Vec{1, -2, 0.5})), impl.Vec{1, -2, 0.5})
	wantCentre(t, "two", mapOf(heavyMark(0, 3, impl.Vec{1, -2, 0.5}), heavyMark(1, 1, impl.Vec{5, 2, 0})), impl.Vec{2, -1, 0.375})
	wantCentre(t, "-0 stays", mapOf(heavyMark(0, 3, impl.Vec{minusZero, minusZero, 0}), heavyMark(1, 1, impl.Vec{minusZero, 0, minusZero})), impl.Vec{minusZero, 0, 0})
	wantCentre(t, "-0 of one", mapOf(heavyMark(0, 3, impl.Vec{minusZero, -tiniest, 0})), impl.Vec{minusZero, -tiniest, 0})
	// The order of the sums: 2^24 and 1 make 2^24, but 1 and 1 and 2^24 make more.
	great := heavyMark(0, 1, impl.Vec{1 << 24, 1, 1 << 24})
	one, two := heavyMark(1, 1, impl.Vec{1, 1 << 24, 1}), heavyMark(2, 2, impl.Vec{0.5, 0.5, -1 << 23})
	wantCentre(t, "the greatest number first", mapOf(great, one, two), impl.Vec{1 << 22, 1 << 22, 0})
	last := great
	last.Cell[0] = 3
	wantCentre(t, "the greatest number last", mapOf(one, two, last), impl.Vec{(1<<24 + 2) / 4.0, 1 << 22, 0.25})
	wantCentre(t, "an infinite weight", mapOf(heavyMark(0, greatest, impl.Vec{0.25, -0.25, 0}), heavyMark(1, greatest, impl.Vec{0.5, minusZero, minusZero})), impl.Vec{0, minusZero, 0})
	wantCentre(t, "an infinite sum", mapOf(heavyMark(0, 2, impl.Vec{greatest, -greatest, 0})), impl.Vec{infinite, -infinite, 0})
	wantCentre(t, "sums that are none", mapOf(heavyMark(0, greatest, impl.Vec{2, 2, 1}), heavyMark(1, greatest, impl.Vec{2, -2, 1})), impl.Vec{nan, nan, nan})
	for _, side := range []float32{1, tiniest, greatest} {
		got, code := impl.CentreOf(impl.LandMap{Side: side})
		wantVecCode(t, "CentreOf, no marks", got, code, impl.Vec{}, impl.ErrNotFound)
	}
	each(badMaps(), func(what string, m impl.LandMap) {
		got, code := impl.CentreOf(m)
		wantVecCode(t, "CentreOf, "+what, got, code, impl.Vec{}, impl.ErrInvalid)
	})
	got, code := impl.CentreOf(impl.LandMap{})
	wantVecCode(t, "CentreOf, nothing", got, code, impl.Vec{}, impl.ErrInvalid)
}

func TestCentresAgain(t *testing.T) {
	d := &dice{seed: 172}
	for range 5000 {
		m := d.aMap(d.aSide(), 60)
		if d.below(3) == 0 {
			m.Marks = d.row(200)
		}
		want, wanted := centreOf(m)
		got, code := impl.CentreOf(m)
		wantVecCode(t, startOf("CentreOf ", m), got, code, want, wanted)
	}
}
