package tests

import (
	"fmt"
	"math"
	"slices"
	"testing"

	"loop.example/g01204/impl"
)

// inCell returns a mark at a point, in whatever cell.
func inCell(cell impl.Place, at impl.Vec) impl.Mark {
	return impl.Mark{Cell: cell, At: at, Weight: 1, Seen: 1, Last: 5}
}

func wantNearest(t *testing.T, what string, m impl.LandMap, v impl.Vec, gate float32, want impl.Mark) {
	t.Helper()
	got, code := impl.NearestMark(m, v, gate)
	wantMark(t, "NearestMark, "+what, got, code, want, impl.OK)
}

func wantNoNearest(t *testing.T, what string, m impl.LandMap, v impl.Vec, gate float32, want int64) {
	t.Helper()
	got, code := impl.NearestMark(m, v, gate)
	wantMark(t, "NearestMark, "+what, got, code, impl.Mark{}, want)
}

// TestNearestMarksAreBeside has one mark in each cell around that of a point, or a little farther away.
func TestNearestMarksAreBeside(t *testing.T) {
	for _, middle := range []impl.Place{{0, 0, 0}, {7, -1, 1}, {1000000, -1000000, 1000000}} {
		v := impl.Vec{float32(middle[0]) + 0.5, float32(middle[1]) + 0.5, float32(middle[2]) + 0.5}
		for k := range 125 {
			cell := impl.Place{middle[0] + int32(k/25) - 2, middle[1] + int32(k/5%5) - 2, middle[2] + int32(k%5) - 2}
			x := inCell(cell, v)
			if isBeside(cell, middle) {
				wantNearest(t, fmt.Sprint(cell), mapOf(x), v, 0, x)
			} else {
				wantNoNearest(t, fmt.Sprint(cell), mapOf(x), v, infinite, impl.ErrNotFound)
			}
		}
	}
	ends := []int32{math.MaxInt32, math.MinInt32, 1000002, -1000002}
	for _, a := range ends {
		for _, v := range []impl.Vec{{}, {1000000, 1000000, 1000000}, {-1000000, -1000000, -1000000}} {
			wantNoNearest(t, fmt.Sprint("cell ", a), mapOf(inCell(impl.Place{a, a, a}, v)), v, infinite, impl.ErrNotFound)
		}
	}
}

func TestNearestMarks(t *testing.T) {
	v := impl.Vec{0.5, 0.5, 0.5}
	left, right := inCell(impl.Place{-1, 0, 0}, impl.Vec{-0.25, 0.5, 0.5}), inCell(impl.Place{1, 0, 0}, impl.Vec{1.25, 0.5, 0.5})
	below, above := inCell(impl.Place{0, 0, -1}, impl.Vec{0.5, 0.5, -0.25}), inCell(impl.Place{0, 0, 1}, impl.Vec{0.5, 0.5, 1.25})
	m := mapOf(left, below, above, right)
	wantNearest(t, "the first of four", m, v, 1, left)
	wantNearest(t, "the first of three", mapOf(below, above, right), v, 1, below)
	wantNearest(t, "the first of two", mapOf(above, right), v, 0.75, above)
	wantNearest(t, "nearer to the right", m, impl.Vec{0.625, 0.5, 0.5}, 1, right)
	wantNearest(t, "nearer to the left", m, impl.Vec{0.375, 0.5, 0.5}, 1, left)
	wantNearest(t, "nearer above", m, impl.Vec{0.5, 0.5, 0.75}, 1, above)
	wantNoNearest(t, "a little beyond the gate", m, v, math.Nextafter32(0.75, 0), impl.ErrNotFound)
	wantNoNearest(t, "no marks", mapOf(), v, infinite, impl.ErrNotFound)
	wantNearest(t, "on it", mapOf(left, inCell(impl.Place{0, 0, 0}, v)), v, minusZero, inCell(impl.Place{0, 0, 0}, v))
	// A tiny difference has the length 0.
	wantNearest(t, "as good as on it", mapOf(inCell(impl.Place{0, 0, 0}, impl.Vec{1e-30, 0, 0}), inCell(impl.Place{0, 0, 1}, impl.Vec{})), impl.Vec{}, 0, inCell(impl.Place{0, 0, 0}, impl.Vec{1e-30, 0, 0}))
	third := inCell(impl.Place{0, 1, 0}, impl.Vec{3.5, 4.5, 0.5})
	wantNearest(t, "outside its cell", mapOf(third), v, 5, third)
	wantNoNearest(t, "outside its cell", mapOf(third), v, 4.999, impl.ErrNotFound)
}

// TestNearestMarksInfinitelyFar has lengths that are infinite, and at most an infinite gate.
func TestNearestMarksInfinitelyFar(t *testing.T) {
	v := impl.Vec{0.5, 0.5, 0.5}
	far := inCell(impl.Place{0, 0, 0}, impl.Vec{greatest, 0, 0})
	farther := inCell(impl.Place{0, 0, 1}, impl.Vec{-greatest, greatest, -greatest})
	near := inCell(impl.Place{1, 1, 1}, impl.Vec{1.5, 0.5, 0.5})
	wantNearest(t, "one", mapOf(far), v, infinite, far)
	wantNoNearest(t, "one", mapOf(far), v, greatest, impl.ErrNotFound)
	wantNearest(t, "two", mapOf(far, farther), v, infinite, far)
	wantNearest(t, "two, and a near one", mapOf(far, farther, near), v, infinite, near)
	list, code := impl.MarksWithin(mapOf(far, farther, near), v, infinite)
	wantMarks(t, "MarksWithin", list, code, []impl.Mark{far, farther, near}, impl.OK)
	list, code = impl.MarksWithin(mapOf(far, farther, near), v, greatest)
	wantMarks(t, "MarksWithin", list, code, []impl.Mark{near}, impl.OK)
	v = impl.Vec{-greatest, 0, 0}
	wide := impl.LandMap{Side: greatest, Marks: []impl.Mark{inCell(impl.Place{0, 0, 0}, impl.Vec{greatest, 0, 0})}}
	wantNearest(t, "an infinite difference", wide, v, infinite, wide.Marks[0])
}

func TestNearestMarksThatAreNone(t *testing.T) {
	m := mapOf(plainMark(0, 0, 0))
	for _, gate := range []float32{-1, -tiniest, -infinite, nan, otherNaN} {
		wantNoNearest(t, "gate", m, impl.Vec{}, gate, impl.ErrRange)
		wantNoNearest(t, "gate and limit", m, impl.Vec{2000000, 0, 0}, gate, impl.ErrRange)
		wantNoNearest(t, "gate and no marks", mapOf(), impl.Vec{}, gate, impl.ErrRange)
		list, code := impl.MarksWithin(m, impl.Vec{}, gate)
		wantMarks(t, fmt.Sprint("MarksWithin, radius ", gate), list, code, nil, impl.ErrRange)
	}
	for i := range 3 {
		v := impl.Vec{2000000, 2000000, 2000000}
		wantNoNearest(t, "limit", m, v, 1, impl.ErrLimit)
		for _, a := range []float32{infinite, -infinite, nan, otherNaN} {
			v[i] = a
			wantNoNearest(t, "point", m, v, 1, impl.ErrRange)
			list, code := impl.MarksWithin(m, v, infinite)
			wantMarks(t, fmt.Sprint("MarksWithin ", v), list, code, nil, impl.ErrRange)
		}
		v = impl.Vec{}
		v[i] = 1000001
		wantNoNearest(t, "limit", m, v, infinite, impl.ErrLimit)
		v[i] = -1000001
		wantNoNearest(t, "limit", mapOf(), v, infinite, impl.ErrLimit)
	}
	each(badMaps(), func(what string, m impl.LandMap) {
		for _, v := range []impl.Vec{{}, {nan, 0, 0}, {2000000, 0, 0}} {
			wantNoNearest(t, what, m, v, 1, impl.ErrInvalid)
			wantNoNearest(t, what, m, v, -1, impl.ErrInvalid)
			list, code := impl.MarksWithin(m, v, 1)
			wantMarks(t, "MarksWithin, "+what, list, code, nil, impl.ErrInvalid)
			list, code = impl.MarksWithin(m, v, nan)
			wantMarks(t, "MarksWithin, "+what, list, code, nil, impl.ErrInvalid)
		}
	})
}

func TestMarksWithinARadius(t *testing.T) {
	m := mapOf(plainMark(-5, 0, 0), plainMark(0, 0, 0), plainMark(0, 3, 4), plainMark(1, 0, 0), plainMark(100, 0, 0))
	v := impl.Vec{0.5, 0.5, 0.5}
	for _, c := range []struct {
		radius float32
		want   []impl.Mark
	}{
		{0, m.Marks[1:2]}, {minusZero, m.Marks[1:2]}, {0.99, m.Marks[1:2]}, {1, []impl.Mark{m.Marks[1], m.Marks[3]}},
		{4.99, []impl.Mark{m.Marks[1], m.Marks[3]}}, {5, m.Marks[:4]}, {99, m.Marks[:4]}, {100, m.Marks}, {infinite, m.Marks},
	} {
		got, code := impl.MarksWithin(m, v, c.radius)
		wantMarks(t, fmt.Sprint("MarksWithin ", c.radius), got, code, c.want, impl.OK)
	}
	for _, v := range []impl.Vec{{2000000, 0, 0}, {greatest, greatest, -greatest}} { // no cell is needed
		got, code := impl.MarksWithin(m, v, 1)
		wantMarks(t, fmt.Sprint("MarksWithin, near ", v), got, code, nil, impl.OK)
		got, code = impl.MarksWithin(m, v, infinite)
		wantMarks(t, fmt.Sprint("MarksWithin, near ", v), got, code, m.Marks, impl.OK)
	}
	got, code := impl.MarksWithin(mapOf(), v, infinite)
	wantMarks(t, "MarksWithin of no marks", got, code, nil, impl.OK)
	got, code = impl.MarksWithin(fullMap(), v, 99)
	wantMarks(t, "MarksWithin of 200 marks", got, code, fullMap().Marks[:100], impl.OK)
}

func TestNearestMarksAgain(t *testing.T) {
	d := &dice{seed: 160}
	found := map[int64]int{}
	for range 20000 {
		side := d.aSide()
		m, v := d.aMap(side, 25), d.point(side)
		gate := held(product(d.whole(3)+2, side))
		switch d.below(9) {
		case 0:
			gate = infinite
		case 1:
			gate = d.any()
		case 2:
			if len(m.Marks) > 0 {
				gate = distanceTo(m.Marks[d.below(len(m.Marks))], v)
			}
		}
		want, wanted := nearestTo(m, v, gate)
		got, code := impl.NearestMark(m, v, gate)
		wantMark(t, startOf("NearestMark ", v, gate, m), got, code, want, wanted)
		found[code]++
		var within []impl.Mark
		for _, x := range m.Marks {
			if distanceTo(x, v) <= gate {
				within = append(within, x)
			}
		}
		wanted = impl.OK
		if !(gate >= 0) {
			wanted = impl.ErrRange
		}
		list, code := impl.MarksWithin(m, v, gate)
		wantMarks(t, startOf("MarksWithin ", v, gate, m), list, code, within, wanted)
	}
	if found[impl.OK] < 5000 || found[impl.ErrNotFound] < 2000 || found[impl.ErrLimit] < 1000 || found[impl.ErrRange] < 1000 {
		t.Errorf("too few of a kind: %v", found)
	}
}

func wantObserved(t *testing.T, what string, m impl.LandMap, v impl.Vec, weight float32, time int64, gate float32, cell impl.Place, want ...impl.Mark) {
	t.Helper()
	got, place, code := impl.ObserveMark(m, v, weight, time, gate)
	wantMap(t, "ObserveMark, "+what, got, code, impl.LandMap{Side: m.Side, Marks: want}, impl.OK)
	if place != cell {
		t.Errorf("ObserveMark, %s: got the cell %v, want %v", what, place, cell)
	}
}

func wantNotObserved(t *testing.T, what string, m impl.LandMap, v impl.Vec, weight float32, time int64, gate float32, want int64) {
	t.Helper()
	got, cell, code := impl.ObserveMark(m, v, weight, time, gate)
	wantMap(t, "ObserveMark, "+what, got, code, impl.LandMap{}, want)
	if cell != (impl.Place{}) {
		t.Errorf("ObserveMark, %s: got the cell %v with code %d", what, cell, code)
	}
}

func TestMarksThatAreSeen(t *testing.T) {
	here := impl.Place{0, 0, 0}
	first := impl.Mark{At: impl.Vec{0.5, 0.5, 0.5}, Weight: 1, Seen: 1, Last: 5}
	wantObserved(t, "a new one", mapOf(), first.At, 1, 5, 1, here, first)
	again := impl.Mark{At: impl.Vec{0.625, 0.5, 0.5}, Weight: 2, Seen: 2, Last: 6}
	wantObserved(t, "seen again", mapOf(first), impl.Vec{0.75, 0.5, 0.5}, 1, 6, 1, here, again)
	wantObserved(t, "seen again at the gate", mapOf(first), impl.Vec{0.75, 0.5, 0.5}, 1, 6, 0.25, here, again)
	further := impl.Mark{At: impl.Vec{0.75, 0.5, 0.5}, Weight: 0.5, Seen: 1, Last: 6}
	wantObserved(t, "a further one, later", mapOf(first), further.At, 0.5, 6, 0.125, here, further)
	wantObserved(t, "a further one, earlier", mapOf(first), further.At, 7, 4, 0.125, here, first)
	heavier := impl.Mark{At: further.At, Weight: 1.5, Seen: 1, Last: 5}
	wantObserved(t, "a further one, heavier", mapOf(first), further.At, 1.5, 5, 0.125, here, heavier)
	wantObserved(t, "a further one, lighter", mapOf(first), further.At, 0.5, 5, 0.125, here, first)
	beside := impl.Mark{At: further.At, Weight: 1, Seen: 1, Last: 5}
	wantObserved(t, "a further one, with a greater number", mapOf(first), further.At, 1, 5, 0.125, here, beside)
	wantObserved(t, "a further one, with a less number", mapOf(first), impl.Vec{0.25, 0.5, 0.5}, 1, 5, 0.125, here, first)
	often := impl.Mark{At: impl.Vec{0.5, 0.5, 0.5}, Weight: 1, Seen: 2, Last: 5}
	wantObserved(t, "a further one, seen less often", mapOf(often), further.At, 1, 5, 0.125, here, often)
	early := impl.Mark{At: impl.Vec{0.625, 0.5, 0.5}, Weight: 2, Seen: 2, Last: 5}
	wantObserved(t, "seen again, at an earlier time", mapOf(first), impl.Vec{0.75, 0.5, 0.5}, 1, 0, 1, here, early)
	heavy := impl.Mark{At: impl.Vec{0.6875, 0.5, 0.5}, Weight: 4, Seen: 2, Last: 6}
	wantObserved(t, "seen again, with more weight", mapOf(first), impl.Vec{0.75, 0.5, 0.5}, 3, 6, 1, here, heavy)
	most := impl.Mark{At: first.At, Weight: 1, Seen: 1000000, Last: 1000000000}
	wantObserved(t, "seen as often as can be", mapOf(most), first.At, 1, 1000000000, 0, here, impl.Mark{At: first.At, Weight: 2, Seen: 1000000, Last: 1000000000})
	most.Seen--
	wantObserved(t, "seen nearly as often", mapOf(most), first.At, 1, 0, 0, here, impl.Mark{At: first.At, Weight: 2, Seen: 1000000, Last: 1000000000})
	zero := impl.Mark{At: impl.Vec{minusZero, minusZero, 0}, Weight: 1, Seen: 1, Last: 5}
	wantObserved(t, "-0 stays", mapOf(zero), impl.Vec{minusZero, 0, minusZero}, 1, 5, 1, here, impl.Mark{At: impl.Vec{minusZero, 0, 0}, Weight: 2, Seen: 2, Last: 5})
	wantObserved(t, "-0 of a new one", mapOf(), impl.Vec{minusZero, minusZero, 0}, 1, 5, 1, here, zero)
	wantObserved(t, "tiny weights", mapOf(), first.At, tiniest, 0, 0, here, impl.Mark{At: first.At, Weight: tiniest, Seen: 1})
}

func TestMarksThatMoveToOtherCells(t *testing.T) {
	m := mapOf(plainMark(-3, 0, 0), inCell(impl.Place{0, 0, 0}, impl.Vec{0.75, 0.5, 0.5}), plainMark(9, 9, 9))
	seen := impl.Mark{Cell: impl.Place{1, 0, 0}, At: impl.Vec{1, 0.5, 0.5}, Weight: 2, Seen: 2, Last: 6}
	v := impl.Vec{1.25, 0.5, 0.5}
	wantObserved(t, "into an empty cell", m, v, 1, 6, 1, seen.Cell, m.Marks[0], seen, m.Marks[2])
	other := inCell(impl.Place{1, 0, 0}, impl.Vec{1.99, 0.5, 0.5})
	n := mapOf(m.Marks[0], m.Marks[1], other, m.Marks[2])
	wantObserved(t, "into a cell with a worse one", n, v, 1, 6, 1, seen.Cell, m.Marks[0], seen, m.Marks[2])
	other.Last = 7
	n = mapOf(m.Marks[0], m.Marks[1], other, m.Marks[2])
	wantObserved(t, "into a cell with a better one", n, v, 1, 6, 1, seen.Cell, m.Marks[0], other, m.Marks[2])
	other.Last, other.Weight, other.Seen = 6, 2, 3
	n = mapOf(m.Marks[0], m.Marks[1], other, m.Marks[2])
	wantObserved(t, "into a cell with one that is seen more often", n, v, 1, 6, 1, seen.Cell, m.Marks[0], other, m.Marks[2])
	away := inCell(impl.Place{1, 1, 1}, impl.Vec{0.25, 0.25, 0.25})
	wantObserved(t, "into the cell of its point at last", mapOf(away), away.At, 1, 6, 0, impl.Place{}, impl.Mark{At: away.At, Weight: 2, Seen: 2, Last: 6})
}

// TestWeightsThatAreTooGreat has sums of weights that are infinite: the old
// weight stays, and what is divided by the sum is 0, or not a number.
func TestWeightsThatAreTooGreat(t *testing.T) {
	x := impl.Mark{At: impl.Vec{0.5, -0.5, minusZero}, Weight: greatest, Seen: 1, Last: 5}
	want := impl.Mark{At: impl.Vec{0, minusZero, minusZero}, Weight: greatest, Seen: 2, Last: 6}
	wantObserved(t, "an infinite sum", mapOf(x), impl.Vec{0.25, -0.25, minusZero}, greatest, 6, 1, impl.Place{}, want)
	x.Weight, want.Weight = 2e38, 2e38
	wantObserved(t, "an infinite sum", mapOf(x), impl.Vec{0.25, -0.25, minusZero}, 3e38, 6, 1, impl.Place{}, want)
	heavy := impl.Mark{At: impl.Vec{2, 0, 0}, Weight: greatest, Seen: 1, Last: 5}
	wantNotObserved(t, "an infinite product, and a sum that is", mapOf(heavy), impl.Vec{1, 0, 0}, greatest, 6, 1, impl.ErrLimit)
	wantNotObserved(t, "an infinite product", mapOf(heavy), impl.Vec{1, 0, 0}, 1, 6, 1, impl.ErrLimit)
	light := impl.Mark{Cell: impl.Place{1, 0, 0}, At: impl.Vec{1, 0, 0}, Weight: 1, Seen: 1, Last: 5}
	wantNotObserved(t, "another infinite product", mapOf(light), impl.Vec{2, 0, 0}, greatest, 6, 1, impl.ErrLimit)
	for _, weight := range []float32{1e38, greatest} {
		opposite := impl.Mark{Cell: impl.Place{3, 0, 0}, At: impl.Vec{-2, 0, 0}, Weight: 2e38, Seen: 1, Last: 5}
		wantNotObserved(t, "infinite products of which none is left", mapOf(opposite), impl.Vec{4, 0, 0}, weight, 6, 6, impl.ErrLimit)
	}
}

func TestMarksThatMoveTooFar(t *testing.T) {
	far := inCell(impl.Place{0, 0, 0}, impl.Vec{0, 3000000, 0})
	wantNotObserved(t, "too far", mapOf(far), impl.Vec{}, 1, 6, infinite, impl.ErrLimit)
	wantNotObserved(t, "too far below", mapOf(inCell(impl.Place{0, 0, 0}, impl.Vec{0, 0, -3000000})), impl.Vec{}, 1, 6, infinite, impl.ErrLimit)
	seen := impl.Mark{Cell: impl.Place{0, 1000000, 0}, At: impl.Vec{0, 1000000, 0}, Weight: 3, Seen: 2, Last: 6}
	wantObserved(t, "just not too far", mapOf(far), impl.Vec{}, 2, 6, 3000000, seen.Cell, seen)
	single := impl.Mark{At: impl.Vec{}, Weight: 2, Seen: 1, Last: 6}
	wantObserved(t, "beyond the gate", mapOf(inCell(impl.Place{0, 0, 1}, far.At)), impl.Vec{}, 2, 6, 2999999, impl.Place{}, single, inCell(impl.Place{0, 0, 1}, far.At))
}

func TestMarksInFullMaps(t *testing.T) {
	full := fullMap()
	for _, v := range []impl.Vec{{200.5, 0.5, 0.5}, {-0.5, 0.5, 0.5}, {7.5, 1.5, 0.5}} {
		wantNotObserved(t, "one too many", full, v, 1, 6, 0.5, impl.ErrLimit)
	}
	for _, k := range []int32{0, 77, 199} {
		want := slices.Clone(full.Marks)
		want[k] = impl.Mark{Cell: want[k].Cell, At: want[k].At, Weight: 2, Seen: 2, Last: 6}
		wantObserved(t, "seen again", full, want[k].At, 1, 6, 0, want[k].Cell, want...)
		want[k] = impl.Mark{Cell: want[k].Cell, At: impl.Vec{float32(k) + 0.25, 0.25, 0.25}, Weight: 1, Seen: 1, Last: 6}
		wantObserved(t, "in a cell with one", full, want[k].At, 1, 6, 0.125, want[k].Cell, want...)
	}
	moved := impl.Mark{Cell: impl.Place{-1, 0, 0}, At: impl.Vec{-0.25, 0.5, 0.5}, Weight: 4, Seen: 2, Last: 6}
	wantObserved(t, "moved away", full, impl.Vec{-0.5, 0.5, 0.5}, 3, 6, 1, moved.Cell, append([]impl.Mark{moved}, full.Marks[1:]...)...)
	last := full.Marks[199]
	want := append(slices.Clone(full.Marks[:199]), impl.Mark{Cell: last.Cell, At: last.At, Weight: 1, Seen: 1, Last: 6})
	wantObserved(t, "the last one", mapOf(full.Marks[:199]...), last.At, 1, 6, 0.5, last.Cell, want...)
}

func TestMarksThatAreNotSeen(t *testing.T) {
	m, v := mapOf(plainMark(0, 0, 0)), impl.Vec{0.5, 0.5, 0.5}
	far, none := impl.Vec{2000000, 0, 0}, impl.Vec{0, 0, nan}
	for _, m := range []impl.LandMap{mapOf(), m, fullMap()} {
		for _, weight := range badSides() {
			for _, v := range []impl.Vec{v, far, none} {
				wantNotObserved(t, fmt.Sprint("weight ", weight), m, v, weight, 5, 1, impl.ErrRange)
			}
		}
		for _, time := range noTimes() {
			for _, v := range []impl.Vec{v, far, none} {
				wantNotObserved(t, fmt.Sprint("time ", time), m, v, 1, time, 1, impl.ErrRange)
			}
		}
		for _, gate := range []float32{-1, -tiniest, -infinite, nan, otherNaN} {
			for _, v := range []impl.Vec{v, far, none} {
				wantNotObserved(t, fmt.Sprint("gate ", gate), m, v, 1, 5, gate, impl.ErrRange)
			}
		}
		for i := range 3 {
			v := far
			for _, a := range []float32{infinite, -infinite, nan} {
				v[i] = a
				wantNotObserved(t, fmt.Sprint("point ", v), m, v, 1, 5, 1, impl.ErrRange)
			}
			v = impl.Vec{}
			for _, a := range []float32{1000001, -1000001, greatest} {
				v[i] = a
				wantNotObserved(t, fmt.Sprint("point ", v), m, v, 1, 5, infinite, impl.ErrLimit)
			}
		}
	}
	each(badMaps(), func(what string, m impl.LandMap) {
		for _, v := range []impl.Vec{v, far, none} {
			wantNotObserved(t, what, m, v, 1, 5, 1, impl.ErrInvalid)
			wantNotObserved(t, what, m, v, 0, -1, -1, impl.ErrInvalid)
		}
	})
}

func wantAll(t *testing.T, what string, m impl.LandMap, list []impl.Vec, weight float32, time int64, gate float32, want impl.LandMap, known, wanted int64) {
	t.Helper()
	got, count, code := impl.ObserveAll(m, list, weight, time, gate)
	wantMap(t, "ObserveAll, "+what, got, code, want, wanted)
	if count != known {
		t.Errorf("ObserveAll, %s: got %d marks that were there already, want %d", what, count, known)
	}
}

func TestSeveralPoints(t *testing.T) {
	m := mapOf(plainMark(0, 0, 0))
	v := m.Marks[0].At
	wantAll(t, "no points", m, nil, 1, 6, 1, m, 0, impl.OK)
	wantAll(t, "no points, and nothing that fits", m, nil, nan, -1, -1, m, 0, impl.OK)
	twice := impl.Mark{At: v, Weight: 3, Seen: 3, Last: 6}
	wantAll(t, "the same point twice", m, []impl.Vec{v, v}, 1, 6, 0, mapOf(twice), 2, impl.OK)
	wantAll(t, "a new point twice", mapOf(), []impl.Vec{v, v}, 1, 6, 0, mapOf(impl.Mark{At: v, Weight: 2, Seen: 2, Last: 6}), 1, impl.OK)
	there := impl.Mark{Cell: impl.Place{9, 9, 9}, At: impl.Vec{9, 9, 9}, Weight: 1, Seen: 1, Last: 8}
	moved := impl.Mark{At: impl.Vec{0.5625, 0.5, 0.5}, Weight: 2, Seen: 2, Last: 8}
	wantAll(t, "one and another", m, []impl.Vec{{0.625, 0.5, 0.5}, there.At}, 1, 8, 0.25, mapOf(moved, there), 1, impl.OK)
	wantAll(t, "in another order", m, []impl.Vec{there.At, {0.625, 0.5, 0.5}}, 1, 8, 0.25, mapOf(moved, there), 1, impl.OK)
	third := impl.Mark{At: impl.Vec{0.75, 0.5, 0.5}, Weight: 3, Seen: 3, Last: 8}
	wantAll(t, "a mark that moves", mapOf(impl.Mark{At: impl.Vec{0.5, 0.5, 0.5}, Weight: 1, Seen: 1}), []impl.Vec{{0.75, 0.5, 0.5}, {1, 0.5, 0.5}}, 1, 8, 0.375, mapOf(third), 2, impl.OK)
	far, none := impl.Vec{2000000, 0, 0}, impl.Vec{nan, 0, 0}
	for _, c := range []struct {
		list []impl.Vec
		want int64
	}{
		{[]impl.Vec{far}, impl.ErrLimit}, {[]impl.Vec{none}, impl.ErrRange}, {[]impl.Vec{v, far, none}, impl.ErrLimit}, {[]impl.Vec{v, none, far}, impl.ErrRange}, {[]impl.Vec{v, v, far}, impl.ErrLimit},
	} {
		wantAll(t, fmt.Sprint(c.list), m, c.list, 1, 6, 1, impl.LandMap{}, 0, c.want)
		wantAll(t, "no weight", m, c.list, 0, 6, 1, impl.LandMap{}, 0, impl.ErrRange)
		wantAll(t, "no time", m, c.list, 1, -1, 1, impl.LandMap{}, 0, impl.ErrRange)
		wantAll(t, "no gate", m, c.list, 1, 6, nan, impl.LandMap{}, 0, impl.ErrRange)
		each(badMaps(), func(what string, m impl.LandMap) {
			wantAll(t, what, m, c.list, 1, 6, 1, impl.LandMap{}, 0, impl.ErrInvalid)
			wantAll(t, what, m, nil, 1, 6, 1, impl.LandMap{}, 0, impl.ErrInvalid)
		})
	}
}

func TestManyPoints(t *testing.T) {
	full := fullMap()
	var list []impl.Vec
	for _, x := range full.Marks {
		list = append(list, x.At)
	}
	slices.Reverse(list)
	wantAll(t, "200 points", mapOf(), list, 1, 5, 0.5, full, 0, impl.OK)
	wantAll(t, "200 points, two of them twice", mapOf(full.Marks[5], full.Marks[9]), list[:3], 1, 5, 0.5, mapOf(full.Marks[5], full.Marks[9], full.Marks[197], full.Marks[198], full.Marks[199]), 0, impl.OK)
	wantAll(t, "one too many", mapOf(), append(list, impl.Vec{0, 9, 9}), 1, 5, 0.5, impl.LandMap{}, 0, impl.ErrLimit)
	wantAll(t, "one too many, and one that is none", full, []impl.Vec{{0, 9, 9}, {nan, 0, 0}}, 1, 5, 0.5, impl.LandMap{}, 0, impl.ErrLimit)
	// Lists may be long: these points move a mark to and fro between two cells.
	long := make([]impl.Vec, 300000)
	for i := range long {
		long[i] = impl.Vec{float32(i % 2), 0.5, 0.5}
	}
	_, count, code := impl.ObserveAll(full, long, 1, 6, 2)
	if count != 300000 || code != impl.OK {
		t.Errorf("ObserveAll, many points: got %d and code %d", count, code)
	}
}

func TestMarksThatAreSeenAgain(t *testing.T) {
	d := &dice{seed: 161}
	found := map[int64]int{}
	again, moved, lost := 0, 0, 0
	for range 20000 {
		side := d.aSide()
		m, v, weight, time := d.aMap(side, 25), d.point(side), d.weight(), int64(d.below(5))
		gate := held(product(d.whole(3)+3, side))
		if d.below(9) == 0 {
			gate = infinite
		}
		want, cell, known, wanted := observed(m, v, weight, time, gate)
		got, place, code := impl.ObserveMark(m, v, weight, time, gate)
		wantMap(t, startOf("ObserveMark ", v, weight, time, gate, m), got, code, want, wanted)
		if place != cell {
			t.Fatalf("ObserveMark %v, %g, %d, %g, %v: got %v, want %v", v, weight, time, gate, m, place, cell)
		}
		found[code]++
		if code != impl.OK {
			continue
		}
		wantBool(t, "ValidMap", impl.ValidMap(got), true)
		_, code = impl.MarkIn(got, place)
		wantCode(t, "MarkIn", code, impl.OK)
		if known {
			again++
			if indexOf(m, place) < 0 {
				moved++
			}
			if len(got.Marks) < len(m.Marks) {
				lost++
			}
		}
	}
	if found[impl.OK] < 8000 || found[impl.ErrLimit] < 1000 || again < 5000 || moved < 500 || lost < 100 {
		t.Errorf("too few of a kind: %v, %d, %d, %d", found, again, moved, lost)
	}
}

func TestSeveralPointsAgain(t *testing.T) {
	d := &dice{seed: 162}
	found := map[int64]int{}
	for range 4000 {
		side := d.aSide()
		m, weight, time, gate := d.aMap(side, 10), d.weight(), int64(d.below(5)), held(product(d.whole(2)+2, side))
		var list []impl.Vec
		for range d.below(12) {
			list = append(list, vecFrom(func() float32 { return held(product(d.whole(8)/4, side)) }))
		}
		if len(list) > 0 && d.below(5) == 0 {
			list[d.below(len(list))][1] = d.any()
		}
		want, known, wanted := m, int64(0), int64(impl.OK)
		for _, v := range list {
			var was bool
			if want, _, was, wanted = observed(want, v, weight, time, gate); wanted != impl.OK {
				known = 0
				break
			}
			if was {
				known++
			}
		}
		wantAll(t, startOf(list, weight, time, gate, m), m, list, weight, time, gate, want, known, wanted)
		found[wanted]++
	}
	if found[impl.OK] < 2000 || found[impl.ErrLimit] < 100 || found[impl.ErrRange] < 10 {
		t.Errorf("too few of a kind: %v", found)
	}
}

// TestSeenPointsAreNearTheirMarks holds what is seen against the gate: it is a
// mark that was at most so far away, and lies between both then, or a new one.
func TestSeenPointsAreNearTheirMarks(t *testing.T) {
	d := &dice{seed: 163}
	known := 0
	for range 5000 {
		m := impl.LandMap{Side: 1}
		for range 8 {
			m, _, _ = impl.ObserveMark(m, vecFrom(func() float32 { return 2 * d.unit() }), 1+d.unit()/2, int64(d.below(9)), 0.25)
		}
		v, gate := vecFrom(func() float32 { return 2 * d.unit() }), (d.unit()+1)/2
		if d.below(2) == 0 {
			v = impl.AddVec(m.Marks[0].At, vecFrom(func() float32 { return d.unit() / 4 }))
		}
		near, code := impl.NearestMark(m, v, gate)
		got, cell, other := impl.ObserveMark(m, v, 1, 10, gate)
		wantCode(t, "ObserveMark", other, impl.OK)
		x, other := impl.MarkIn(got, cell)
		wantCode(t, "MarkIn", other, impl.OK)
		far := float64(distanceTo(x, v))
		if code == impl.OK {
			known++
			if before := float64(distanceTo(near, v)); before > float64(gate) || far > before+1e-6 || x.Seen != near.Seen+1 {
				t.Fatalf("%v was seen at %v: became %v, with the gate %g", near, v, x, gate)
			}
			continue
		}
		wantMark(t, "a new one", x, code, impl.Mark{Cell: cell, At: v, Weight: 1, Seen: 1, Last: 10}, impl.ErrNotFound)
		if far != 0 {
			t.Fatalf("a new one at %v, seen at %v", x.At, v)
		}
	}
	if known < 1000 || known > 4000 {
		t.Errorf("%d of 5000 were known", known)
	}
}
