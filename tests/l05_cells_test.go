package tests

import (
	"fmt"
	"math"
	"slices"
	"testing"

	"loop.example/g01204/impl"
)

func wantCell(t *testing.T, side float32, v impl.Vec, want impl.Place) {
	t.Helper()
	got, code := impl.CellOf(side, v)
	if got != want {
		t.Errorf("CellOf %g, %v: got %v, want %v", side, v, got, want)
	}
	wantCode(t, fmt.Sprint("CellOf ", side, v), code, impl.OK)
}

func wantNoCell(t *testing.T, side float32, v impl.Vec, want int64) {
	t.Helper()
	got, code := impl.CellOf(side, v)
	if got != (impl.Place{}) {
		t.Errorf("CellOf %g, %v: got %v with code %d", side, v, got, code)
	}
	wantCode(t, fmt.Sprint("CellOf ", side, v), code, want)
}

func TestCells(t *testing.T) {
	wantCell(t, 2, impl.Vec{-1, 0.5, 4}, impl.Place{-1, 0, 2})
	wantCell(t, 1, impl.Vec{0, minusZero, 1}, impl.Place{0, 0, 1})
	wantCell(t, 1, impl.Vec{-1, -0.5, -1.5}, impl.Place{-1, -1, -2})
	wantCell(t, 1, impl.Vec{tiniest, -tiniest, 1 - 1.0/(1<<24)}, impl.Place{0, -1, 0})
	wantCell(t, 0.5, impl.Vec{0.5, 0.75, -0.75}, impl.Place{1, 1, -2})
	wantCell(t, 3, impl.Vec{3, 2.5, -3}, impl.Place{1, 0, -1})
	wantCell(t, tiniest, impl.Vec{tiniest, 7 * tiniest, -7 * tiniest}, impl.Place{1, 7, -7})
	wantCell(t, greatest, impl.Vec{greatest, greatest / 2, -greatest}, impl.Place{1, 0, -1})
	wantCell(t, 1e-30, impl.Vec{0, minusZero, 1e-25}, impl.Place{0, 0, 100000})
}

// TestCellsOfRoundedQuotients has quotients that would be a little less than
// these integers if they were not rounded.
func TestCellsOfRoundedQuotients(t *testing.T) {
	wantCell(t, 0.1, impl.Vec{0.7, 0.9, -0.3}, impl.Place{7, 9, -3})
	wantCell(t, 2, impl.Vec{-tiniest, tiniest, 0}, impl.Place{0, 0, 0})
	wantCell(t, greatest, impl.Vec{-tiniest, -1e-10, -1}, impl.Place{0, 0, -1})
}

func TestCellsThatAreFarAway(t *testing.T) {
	wantCell(t, 1, impl.Vec{1000000, -1000000, 1000000.9375}, impl.Place{1000000, -1000000, 1000000})
	wantCell(t, 2, impl.Vec{-2000000, 2000001.75, -1999999}, impl.Place{-1000000, 1000000, -1000000})
	wantCell(t, 0.5, impl.Vec{500000.4375, -500000, 0}, impl.Place{1000000, -1000000, 0})
	for i := range 3 {
		for _, a := range []float32{1000001, -1000000.0625, -1000001, 2000000, 1e10, -1e10, 2147483648, -2147483648, 4294967296, 1 << 63, -(1 << 63), 1 << 64, greatest, -greatest} {
			var v impl.Vec
			v[i] = a
			wantNoCell(t, 1, v, impl.ErrLimit)
		}
		var v impl.Vec
		v[i] = 1
		wantNoCell(t, tiniest, v, impl.ErrLimit)
		wantNoCell(t, 1e-7, v, impl.ErrLimit)
		v[i] = -1
		wantNoCell(t, tiniest, v, impl.ErrLimit)
	}
}

func TestCellsThatAreNone(t *testing.T) {
	for _, side := range badSides() {
		for _, v := range []impl.Vec{{}, {1, 2, 3}, {2000000, 0, 0}, {nan, 0, 0}} {
			wantNoCell(t, side, v, impl.ErrRange)
		}
		m, code := impl.EmptyMap(side)
		wantMap(t, fmt.Sprint("EmptyMap ", side), m, code, impl.LandMap{}, impl.ErrRange)
	}
	for i := range 3 {
		for _, a := range []float32{infinite, -infinite, nan, otherNaN} {
			v := impl.Vec{2000000, -2000000, 2000000}
			v[i] = a
			wantNoCell(t, 1, v, impl.ErrRange)
			wantNoCell(t, greatest, v, impl.ErrRange)
		}
	}
}

// TestCellsAgain counts the points that an exact quotient would put elsewhere.
func TestCellsAgain(t *testing.T) {
	d := &dice{seed: 150}
	elsewhere := 0
	found := map[int64]int{}
	for range 60000 {
		side, v := float32(math.Abs(float64(d.any()))), vecFrom(d.any)
		if d.below(2) == 0 {
			side = d.aSide()
			v = d.point(side)
		}
		want, wanted := cellOf(side, v)
		got, code := impl.CellOf(side, v)
		found[code]++
		if got != want || code != wanted {
			t.Fatalf("CellOf %g, %v: got %v and %d, want %v and %d", side, v, got, code, want, wanted)
		}
		for i := range 3 {
			if code == impl.OK && float64(got[i]) != math.Floor(float64(v[i])/float64(side)) {
				elsewhere++
			}
		}
	}
	if elsewhere < 20 || found[impl.OK] < 20000 || found[impl.ErrLimit] < 5000 || found[impl.ErrRange] < 5000 {
		t.Errorf("too few cells of a kind: %d and %v", elsewhere, found)
	}
}

func TestOrderOfPlaces(t *testing.T) {
	numbers := []int32{0, 1, -1, 2, 10, math.MaxInt32, math.MinInt32, math.MinInt32 + 1}
	var list []impl.Place
	for _, i := range numbers {
		for _, j := range numbers {
			for _, k := range numbers {
				list = append(list, impl.Place{i, j, k})
			}
		}
	}
	for _, a := range list {
		for _, b := range list {
			if got, want := impl.ComparePlaces(a, b), int64(orderOfPlaces(a, b)); got != want {
				t.Fatalf("ComparePlaces %v, %v: got %d, want %d", a, b, got, want)
			}
		}
	}
}

// wantBetter wants a to be better than b, and b not to be better than a.
func wantBetter(t *testing.T, what string, a, b impl.Mark) {
	t.Helper()
	wantBool(t, fmt.Sprint("BetterMark, ", what, a, b), impl.BetterMark(a, b), true)
	wantBool(t, fmt.Sprint("BetterMark, the other way round, ", what, b, a), impl.BetterMark(b, a), false)
}

func TestBetterMarks(t *testing.T) {
	mark := func(last int64, weight float32, seen int64, at impl.Vec) impl.Mark {
		return impl.Mark{At: at, Weight: weight, Seen: seen, Last: last}
	}
	low, high := impl.Vec{-9, -9, -9}, impl.Vec{9, 9, 9}
	wantBetter(t, "time", mark(6, 1, 1, low), mark(5, 2, 2, high))
	wantBetter(t, "time", mark(1000000000, tiniest, 1, low), mark(0, greatest, 1000000, high))
	wantBetter(t, "weight", mark(5, 2, 1, low), mark(5, 1, 2, high))
	wantBetter(t, "weight", mark(5, 2*tiniest, 1, low), mark(5, tiniest, 1000000, high))
	wantBetter(t, "seen", mark(5, 1, 3, low), mark(5, 1, 2, high))
	wantBetter(t, "first number", mark(5, 1, 1, impl.Vec{1, -9, -9}), mark(5, 1, 1, impl.Vec{-2, 9, 9}))
	wantBetter(t, "second number", mark(5, 1, 1, impl.Vec{1, 2, -9}), mark(5, 1, 1, impl.Vec{1, 1, 9}))
	wantBetter(t, "third number", mark(5, 1, 1, impl.Vec{1, 2, 3}), mark(5, 1, 1, impl.Vec{1, 2, -4}))
	wantBetter(t, "first zero", mark(5, 1, 1, impl.Vec{0, -9, -9}), mark(5, 1, 1, impl.Vec{minusZero, 9, 9}))
	wantBetter(t, "second zero", mark(5, 1, 1, impl.Vec{1, 0, -9}), mark(5, 1, 1, impl.Vec{1, minusZero, 9}))
	wantBetter(t, "third zero", mark(5, 1, 1, impl.Vec{0, 0, 0}), mark(5, 1, 1, impl.Vec{0, 0, minusZero}))
	wantBetter(t, "-0 and less", mark(5, 1, 1, impl.Vec{minusZero, -9, 0}), mark(5, 1, 1, impl.Vec{-tiniest, 9, 0}))
	wantBetter(t, "0 and more", mark(5, 1, 1, impl.Vec{tiniest, -9, 0}), mark(5, 1, 1, impl.Vec{0, 9, 0}))
	for _, at := range []impl.Vec{{}, low, high, {minusZero, 0, minusZero}} {
		x := mark(5, 1, 1, at)
		y := x
		y.Cell = impl.Place{1, 2, 3}
		wantBool(t, "a mark is not better than itself", impl.BetterMark(x, x), false)
		wantBool(t, "a cell makes no mark better", impl.BetterMark(y, x) || impl.BetterMark(x, y), false)
	}
	worst, best := mark(0, tiniest, 1, low), mark(1000000000, greatest, 1000000, high)
	wantBetter(t, "all", best, worst)
	each(badMarks(), func(what string, bad impl.Mark) {
		for _, x := range []impl.Mark{worst, best, bad} {
			wantBool(t, "BetterMark, one is not valid, "+what, impl.BetterMark(bad, x) || impl.BetterMark(x, bad), false)
		}
	})
}

// TestBetterMarksAgain also looks for three marks each of which is better than the next one.
func TestBetterMarksAgain(t *testing.T) {
	d := &dice{seed: 151}
	list := make([]impl.Mark, 300)
	for i := range list {
		list[i] = d.aMark(1)
		if i > 0 && d.below(2) == 0 { // often nearly the same as another one
			list[i] = list[d.below(i)]
			list[i].At[d.below(3)] = d.zero()
			list[i].Cell[0]++
		}
	}
	for _, a := range list {
		for _, b := range list {
			wantBool(t, fmt.Sprint("BetterMark ", a, b), impl.BetterMark(a, b), orderOfMarks(a, b) > 0)
		}
	}
	slices.SortFunc(list, func(a, b impl.Mark) int {
		if impl.BetterMark(a, b) {
			return 1
		}
		return -1
	})
	for i, a := range list {
		for _, b := range list[i+1:] {
			wantBool(t, fmt.Sprint("an earlier one is better: ", a, b), impl.BetterMark(a, b), false)
		}
	}
}

func TestMapsThatAreValid(t *testing.T) {
	far := plainMark(0, 0, 0)
	far.Cell = impl.Place{math.MaxInt32, math.MinInt32, 7}
	ends := impl.Mark{At: impl.Vec{greatest, -greatest, minusZero}, Weight: tiniest, Seen: 1000000, Last: 1000000000}
	other := impl.Mark{Cell: impl.Place{0, 0, 1}, Weight: greatest, Seen: 1, Last: 0}
	for _, m := range []impl.LandMap{
		mapOf(), {Side: tiniest}, {Side: greatest}, {Side: 1, Marks: []impl.Mark{}}, mapOf(plainMark(0, 0, 0)), mapOf(ends, other, far), fullMap(),
		mapOf(plainMark(-1, 5, 5), plainMark(0, -5, 5), plainMark(0, 4, -5), plainMark(0, 4, 0)),
	} {
		wantBool(t, startOf("ValidMap ", m), impl.ValidMap(m), true)
	}
	each(badMaps(), func(what string, m impl.LandMap) {
		wantBool(t, "ValidMap, "+what, impl.ValidMap(m), false)
	})
	wantBool(t, "a very long map", impl.ValidMap(impl.LandMap{Side: 1, Marks: make([]impl.Mark, 100000)}), false)
	d := &dice{seed: 152}
	for range 3000 {
		m := d.aMap(d.aSide(), 30)
		if len(m.Marks) > 0 {
			x := &m.Marks[d.below(len(m.Marks))]
			list := []func(){
				func() { x.Cell[d.below(3)] += int32(d.whole(1)) }, func() { x.At[d.below(3)] = d.any() }, func() { x.Weight = d.any() },
				func() { x.Seen = int64(d.whole(2)) }, func() { x.Last = int64(d.whole(2)) }, func() { m.Side = d.any() },
			}
			list[d.below(len(list))]()
		}
		wantBool(t, startOf("ValidMap ", m), impl.ValidMap(m), validMap(m))
	}
}

func TestSameMaps(t *testing.T) {
	wantBool(t, "no marks", impl.SameMap(mapOf(), impl.LandMap{Side: 1, Marks: []impl.Mark{}}), true)
	wantBool(t, "no sides", impl.SameMap(impl.LandMap{Side: nan}, impl.LandMap{Side: otherNaN}), true)
	wantBool(t, "0 and -0", impl.SameMap(impl.LandMap{Side: minusZero}, impl.LandMap{}), false)
	wantBool(t, "a part", impl.SameMap(fullMap(), mapOf(fullMap().Marks[:199]...)), false)
	wantBool(t, "two marks that are the other way round", impl.SameMap(mapOf(plainMark(0, 0, 0), plainMark(1, 0, 0)), mapOf(plainMark(1, 0, 0), plainMark(0, 0, 0))), false)
	changes := []func(x *impl.Mark){
		func(x *impl.Mark) { x.Cell[0]++ }, func(x *impl.Mark) { x.Cell[1]-- }, func(x *impl.Mark) { x.Cell[2]++ },
		func(x *impl.Mark) { x.At[0] = 0 }, func(x *impl.Mark) { x.At[1] = nan }, func(x *impl.Mark) { x.At[2] = 0.5 },
		func(x *impl.Mark) { x.Weight = -1 }, func(x *impl.Mark) { x.Seen = -9 }, func(x *impl.Mark) { x.Last++ },
	}
	for i := range 3 {
		m := mapOf(plainMark(0, 0, 0), plainMark(0, 0, 0), plainMark(3, 2, 1)) // not valid, which does not matter
		n := mapOf(slices.Clone(m.Marks)...)
		m.Marks[i].At, n.Marks[i].At = impl.Vec{minusZero, 1, otherNaN}, impl.Vec{minusZero, 1, nan}
		m.Marks[i].Weight, n.Marks[i].Weight = nan, otherNaN
		wantBool(t, "the same", impl.SameMap(m, n), true)
		for k, change := range changes {
			other := mapOf(slices.Clone(n.Marks)...)
			change(&other.Marks[i])
			wantBool(t, fmt.Sprint("change ", k, " of mark ", i), impl.SameMap(m, other) || impl.SameMap(other, m), same(0, 1))
		}
	}
	bad := badMaps()
	for i, m := range bad {
		for k, n := range bad {
			wantBool(t, fmt.Sprint("bad maps ", i, " and ", k), impl.SameMap(m, n), sameMap(m, n))
		}
	}
}

func TestEmptyMaps(t *testing.T) {
	for _, side := range []float32{1, 0.1, 7, tiniest, greatest} {
		m, code := impl.EmptyMap(side)
		wantMap(t, fmt.Sprint("EmptyMap ", side), m, code, impl.LandMap{Side: side}, impl.OK)
		wantBool(t, "ValidMap", impl.ValidMap(m), true)
		_, code = impl.MarkIn(m, impl.Place{})
		wantCode(t, "MarkIn of an empty map", code, impl.ErrNotFound)
	}
}

func TestMarksInCells(t *testing.T) {
	far := plainMark(0, 0, 0)
	far.Cell = impl.Place{math.MaxInt32, math.MinInt32, math.MinInt32}
	m := mapOf(plainMark(-3, 0, 0), plainMark(-1, 0, 5), plainMark(0, 0, 0), plainMark(0, 0, 1), plainMark(0, 7, -1), far)
	for _, x := range m.Marks {
		got, code := impl.MarkIn(m, x.Cell)
		wantMark(t, fmt.Sprint("MarkIn ", x.Cell), got, code, x, impl.OK)
	}
	for _, x := range fullMap().Marks {
		got, code := impl.MarkIn(fullMap(), x.Cell)
		wantMark(t, fmt.Sprint("MarkIn ", x.Cell), got, code, x, impl.OK)
	}
	for _, cell := range []impl.Place{{-4, 0, 0}, {-2, 0, 0}, {0, 0, -1}, {0, 0, 2}, {0, 1, 0}, {1, 0, 0}, {5, 0, -1}, {math.MinInt32, 0, 0}, {math.MaxInt32, math.MaxInt32, math.MaxInt32}} {
		got, code := impl.MarkIn(m, cell)
		wantMark(t, fmt.Sprint("MarkIn ", cell), got, code, impl.Mark{}, impl.ErrNotFound)
	}
	each(badMaps(), func(what string, m impl.LandMap) {
		for _, cell := range []impl.Place{{0, 0, 0}, {-1, 0, 0}, {9, 9, 9}} {
			got, code := impl.MarkIn(m, cell)
			wantMark(t, "MarkIn, "+what, got, code, impl.Mark{}, impl.ErrInvalid)
		}
	})
}

func wantPut(t *testing.T, what string, m impl.LandMap, x impl.Mark, want ...impl.Mark) {
	t.Helper()
	got, code := impl.PutMark(m, x)
	wantMap(t, "PutMark, "+what, got, code, impl.LandMap{Side: m.Side, Marks: want}, impl.OK)
}

func TestMarksThatArePut(t *testing.T) {
	a, b, c := plainMark(-1, 0, 0), plainMark(0, 0, 0), plainMark(0, 0, 1)
	m := mapOf(a, b, c)
	wantPut(t, "the first one", mapOf(), b, b)
	for _, x := range []impl.Mark{a, b, c} {
		wantPut(t, "what is there already", m, x, a, b, c)
	}
	wantPut(t, "before all", mapOf(b, c), a, a, b, c)
	wantPut(t, "between", mapOf(a, c), b, a, b, c)
	wantPut(t, "behind all", mapOf(a, b), c, a, b, c)
	far := b
	far.Cell = impl.Place{math.MinInt32, math.MaxInt32, 0}
	wantPut(t, "a cell far away, of a near mark", m, far, far, a, b, c)
	changes := []func(x *impl.Mark){
		func(x *impl.Mark) { x.Last, x.Weight = 6, 0.5 },
		func(x *impl.Mark) { x.Weight, x.At[0] = 2, -9 },
		func(x *impl.Mark) { x.Seen, x.At[0] = 2, -9 },
		func(x *impl.Mark) { x.At = impl.Vec{9, -9, -9} },
		func(x *impl.Mark) { x.At[1] += 0.25 },
		func(x *impl.Mark) { x.At[2] += 0.25 },
	}
	for i, change := range changes {
		better := b
		change(&better)
		wantPut(t, fmt.Sprint("a better one, ", i), m, better, a, better, c)
		wantPut(t, fmt.Sprint("a worse one, ", i), mapOf(a, better, c), b, a, better, c)
	}
	zero, minus := b, b
	zero.At, minus.At = impl.Vec{0.5, 0, 0}, impl.Vec{0.5, minusZero, 0}
	wantPut(t, "0 for -0", mapOf(a, minus, c), zero, a, zero, c)
	wantPut(t, "-0 for 0", mapOf(a, zero, c), minus, a, zero, c)
}

func TestMarksThatAreNotPut(t *testing.T) {
	full := fullMap()
	for _, x := range []impl.Mark{plainMark(200, 0, 0), plainMark(-1, 0, 0), plainMark(7, 0, 1)} {
		got, code := impl.PutMark(full, x)
		wantMap(t, "PutMark, one too many", got, code, impl.LandMap{}, impl.ErrLimit)
		wantPut(t, "one in a part", mapOf(full.Marks[:1]...), plainMark(1, 0, 0), full.Marks[:2]...)
	}
	for _, k := range []int32{0, 100, 199} {
		better := full.Marks[k]
		better.Last++
		want := slices.Clone(full.Marks)
		want[k] = better
		wantPut(t, "a better one in a full map", full, better, want...)
		wantPut(t, "a worse one in a full map", mapOf(want...), full.Marks[k], want...)
	}
	wantPut(t, "the last one", mapOf(full.Marks[:199]...), full.Marks[199], full.Marks...)
	each(badMaps(), func(what string, m impl.LandMap) {
		got, code := impl.PutMark(m, plainMark(0, 0, 0))
		wantMap(t, "PutMark, "+what, got, code, impl.LandMap{}, impl.ErrInvalid)
	})
	each(badMarks(), func(what string, x impl.Mark) {
		for _, m := range []impl.LandMap{mapOf(), mapOf(plainMark(0, 0, 0)), full} {
			got, code := impl.PutMark(m, x)
			wantMap(t, "PutMark, "+what, got, code, impl.LandMap{}, impl.ErrInvalid)
		}
		x.Cell = impl.Place{300, 0, 0} // it would be one too many as well
		got, code := impl.PutMark(full, x)
		wantMap(t, "PutMark, too many and "+what, got, code, impl.LandMap{}, impl.ErrInvalid)
	})
}

func TestMarksThatArePutAgain(t *testing.T) {
	d := &dice{seed: 153}
	for range 4000 {
		side := d.aSide()
		m, x := d.aMap(side, 40), d.aMark(side)
		want, wanted := withMark(m, x)
		got, code := impl.PutMark(m, x)
		wantMap(t, startOf("PutMark ", m, x), got, code, want, wanted)
		wantBool(t, "ValidMap", impl.ValidMap(got), true)
		i := indexOf(m, x.Cell)
		y, code := impl.MarkIn(m, x.Cell)
		if i < 0 {
			wantMark(t, "MarkIn", y, code, impl.Mark{}, impl.ErrNotFound)
		} else {
			wantMark(t, "MarkIn", y, code, m.Marks[i], impl.OK)
		}
	}
}
