package tests

import (
	"fmt"
	"math"
	"slices"
	"strings"
	"testing"

	"loop.example/g01204/impl"
)

// Chapter 5 reckoned once more: maps stay lists, all marks are looked at, and
// nothing is looked up, with the operations that are rounded in numbers_test.go.

func positive(a float32) bool { return isFinite(a) && a > 0 }

// cellOf finds the integers by going down from those that are cut off.
func cellOf(side float32, v impl.Vec) (impl.Place, int64) {
	if !positive(side) || !finiteNumbers(v[:]...) {
		return impl.Place{}, impl.ErrRange
	}
	var cell impl.Place
	for i := range 3 {
		q := quotient(v[i], side)
		if q >= 1000001 || q < -1000000 {
			return impl.Place{}, impl.ErrLimit
		}
		cell[i] = int32(q)
		if float32(cell[i]) > q {
			cell[i]--
		}
	}
	return cell, impl.OK
}

// orderOf returns -1, 0 or 1 for a being less than b, equal, or greater.
func orderOf[T int32 | int64 | float32](a, b T) int {
	if a < b {
		return -1
	}
	if a > b {
		return 1
	}
	return 0
}

func orderOfPlaces(a, b impl.Place) int {
	for i := range 3 {
		if a[i] != b[i] {
			return orderOf(a[i], b[i])
		}
	}
	return 0
}

func validMark(x impl.Mark) bool {
	return finiteNumbers(x.At[:]...) && positive(x.Weight) && 0 < x.Seen && x.Seen < 1000001 && isTime(x.Last)
}

// orderOfMarks tells which mark is better, and does not look at their cells.
func orderOfMarks(a, b impl.Mark) int {
	if a.Last != b.Last {
		return orderOf(a.Last, b.Last)
	}
	if a.Weight != b.Weight {
		return orderOf(a.Weight, b.Weight)
	}
	if a.Seen != b.Seen {
		return orderOf(a.Seen, b.Seen)
	}
	for i := range 3 {
		switch {
		case same(a.At[i], b.At[i]):
		case a.At[i] != b.At[i]:
			return orderOf(a.At[i], b.At[i])
		case math.Signbit(float64(b.At[i])):
			return 1
		default:
			return -1
		}
	}
	return 0
}

func validMap(m impl.LandMap) bool {
	if len(m.Marks) > 200 {
		return false
	}
	for i, x := range m.Marks {
		if !validMark(x) || i > 0 && orderOfPlaces(m.Marks[i-1].Cell, x.Cell) != -1 {
			return false
		}
	}
	return positive(m.Side)
}

func sameMark(x, y impl.Mark) bool {
	return x.Cell == y.Cell && sameVec(x.At, y.At) && same(x.Weight, y.Weight) && x.Seen == y.Seen && x.Last == y.Last
}

func sameMarks(a, b []impl.Mark) bool {
	if len(a) != len(b) {
		return false
	}
	for i := range a {
		if !sameMark(a[i], b[i]) {
			return false
		}
	}
	return true
}

func sameMap(m, n impl.LandMap) bool { return same(m.Side, n.Side) && sameMarks(m.Marks, n.Marks) }

// indexOf returns the index of the mark of a cell, or -1.
func indexOf(m impl.LandMap, cell impl.Place) int {
	for i, x := range m.Marks {
		if x.Cell == cell {
			return i
		}
	}
	return -1
}

// withMark puts the mark at the end, and sorts.
func withMark(m impl.LandMap, x impl.Mark) (impl.LandMap, int64) {
	m.Marks = slices.Clone(m.Marks)
	if i := indexOf(m, x.Cell); i >= 0 {
		if orderOfMarks(x, m.Marks[i]) > 0 {
			m.Marks[i] = x
		}
		return m, impl.OK
	}
	m.Marks = append(m.Marks, x)
	if len(m.Marks) > 200 {
		return impl.LandMap{}, impl.ErrLimit
	}
	slices.SortFunc(m.Marks, func(x, y impl.Mark) int { return orderOfPlaces(x.Cell, y.Cell) })
	return m, impl.OK
}

func distanceTo(x impl.Mark, v impl.Vec) float32 {
	return root(along(0, 2, func(i int) float32 {
		d := difference(x.At[i], v[i])
		return product(d, d)
	}))
}

// isBeside reports whether two cells differ by at most 1 in each number.
func isBeside(a, b impl.Place) bool {
	for i := range 3 {
		if d := int64(a[i]) - int64(b[i]); d < -1 || d > 1 {
			return false
		}
	}
	return true
}

// nearestTo goes through the marks from the last one on.
func nearestTo(m impl.LandMap, v impl.Vec, gate float32) (impl.Mark, int64) {
	cell, code := cellOf(m.Side, v)
	if gate < 0 || gate != gate {
		code = impl.ErrRange
	}
	if code != impl.OK {
		return impl.Mark{}, code
	}
	found := -1
	for i := len(m.Marks) - 1; i >= 0; i-- {
		x := m.Marks[i]
		if !isBeside(x.Cell, cell) || distanceTo(x, v) > gate {
			continue
		}
		if found < 0 || distanceTo(x, v) <= distanceTo(m.Marks[found], v) {
			found = i
		}
	}
	if found < 0 {
		return impl.Mark{}, impl.ErrNotFound
	}
	return m.Marks[found], impl.OK
}

// seenAgain returns the mark that x is behind it has been seen.
func seenAgain(x impl.Mark, v impl.Vec, weight float32, time int64) impl.Mark {
	s := sum(x.Weight, weight)
	for i := range 3 {
		x.At[i] = quotient(sum(product(x.Weight, x.At[i]), product(weight, v[i])), s)
	}
	if isFinite(s) {
		x.Weight = s
	}
	if x.Seen < 1000000 {
		x.Seen++
	}
	if x.Last < time {
		x.Last = time
	}
	return x
}

// observed returns whether there was a mark already as well.
func observed(m impl.LandMap, v impl.Vec, weight float32, time int64, gate float32) (impl.LandMap, impl.Place, bool, int64) {
	none := func(code int64) (impl.LandMap, impl.Place, bool, int64) {
		return impl.LandMap{}, impl.Place{}, false, code
	}
	if !positive(weight) || !isTime(time) {
		return none(impl.ErrRange)
	}
	x, code := nearestTo(m, v, gate)
	known := code == impl.OK
	switch code {
	case impl.OK:
		m = impl.LandMap{Side: m.Side, Marks: slices.DeleteFunc(slices.Clone(m.Marks), func(y impl.Mark) bool { return y.Cell == x.Cell })}
		x = seenAgain(x, v, weight, time)
	case impl.ErrNotFound:
		x = impl.Mark{At: v, Weight: weight, Seen: 1, Last: time}
	default:
		return none(code)
	}
	if x.Cell, code = cellOf(m.Side, x.At); code != impl.OK {
		return none(impl.ErrLimit)
	}
	if m, code = withMark(m, x); code != impl.OK {
		return none(code)
	}
	return m, x.Cell, known, impl.OK
}

func mergedMaps(m, n impl.LandMap) (impl.LandMap, int64) {
	if m.Side != n.Side {
		return impl.LandMap{}, impl.ErrState
	}
	code := int64(impl.OK)
	for _, x := range n.Marks {
		if m, code = withMark(m, x); code != impl.OK {
			return impl.LandMap{}, code
		}
	}
	return m, impl.OK
}

func centreOf(m impl.LandMap) (impl.Vec, int64) {
	if len(m.Marks) == 0 {
		return impl.Vec{}, impl.ErrNotFound
	}
	last := len(m.Marks) - 1
	weight := along(0, last, func(k int) float32 { return m.Marks[k].Weight })
	var v impl.Vec
	for i := range 3 {
		v[i] = quotient(along(0, last, func(k int) float32 { return product(m.Marks[k].Weight, m.Marks[k].At[i]) }), weight)
	}
	return v, impl.OK
}

// unlikeCells goes through the cells of both, those of n behind those of m.
func unlikeCells(m, n impl.LandMap) ([]impl.Place, int64) {
	if m.Side != n.Side {
		return nil, impl.ErrState
	}
	var list []impl.Place
	for _, x := range m.Marks {
		if i := indexOf(n, x.Cell); i < 0 || !sameMark(x, n.Marks[i]) {
			list = append(list, x.Cell)
		}
	}
	for _, y := range n.Marks {
		if indexOf(m, y.Cell) < 0 {
			list = append(list, y.Cell)
		}
	}
	slices.SortFunc(list, orderOfPlaces)
	return list, impl.OK
}

// rawMapText writes a map as MapText does, valid or not.
func rawMapText(m impl.LandMap) string {
	number := func(a float32) string {
		if a != a {
			return "7fc00000"
		}
		return fmt.Sprintf("%08x", math.Float32bits(a))
	}
	var out strings.Builder
	fmt.Fprintf(&out, "map %s\n", number(m.Side))
	for _, x := range m.Marks {
		fmt.Fprintf(&out, "%d %d %d ", x.Cell[0], x.Cell[1], x.Cell[2])
		fmt.Fprintf(&out, "%s %s %s ", number(x.At[0]), number(x.At[1]), number(x.At[2]))
		fmt.Fprintf(&out, "%s %d %d\n", number(x.Weight), x.Seen, x.Last)
	}
	return out.String()
}

// aSide returns a valid side.
func (d *dice) aSide() float32 {
	list := []float32{1, 1, 2, 0.5, 0.1, 3, 1.0 / 3, 1e-30, tiniest, 1e30, greatest}
	return list[d.below(len(list))]
}

// weight returns a valid weight, often one that others have as well.
func (d *dice) weight() float32 {
	list := []float32{1, 1, 1, 2, 0.5, 3, 0.1, tiniest, 1e-20, 1e30, greatest}
	if d.below(3) > 0 {
		return list[d.below(len(list))]
	}
	return float32(math.Abs(float64(d.unit()))) + tiniest
}

// point returns a point that is often in the middle of a small cell, or on its
// border, so that several marks are equally far away.
func (d *dice) point(side float32) impl.Vec {
	switch d.below(4) {
	case 0:
		return vecFrom(func() float32 { return held(product(d.unit(), product(3, side))) })
	case 1:
		return vecFrom(d.finite)
	}
	return vecFrom(func() float32 { return held(product(d.whole(6)/2, side)) })
}

// held returns a finite number that is near a.
func held(a float32) float32 {
	return float32(math.Max(-math.MaxFloat32, math.Min(math.MaxFloat32, float64(a))))
}

// aMark returns a valid mark, whose cell is often one of a few.
func (d *dice) aMark(side float32) impl.Mark {
	x := impl.Mark{At: d.point(side), Weight: d.weight(), Seen: 1 + int64(d.below(3)), Last: int64(d.below(4))}
	cell, code := cellOf(side, x.At)
	if code != impl.OK || d.below(4) == 0 {
		cell = impl.Place{int32(d.whole(2)), int32(d.whole(2)), int32(d.whole(2))}
	}
	if d.below(50) == 0 {
		cell = impl.Place{math.MaxInt32, math.MinInt32, int32(d.whole(2))}
	}
	if d.below(20) == 0 {
		x.Seen, x.Last = 1000000-int64(d.below(2)), 1000000000-int64(d.below(2))
	}
	x.Cell = cell
	return x
}

// aMap returns a valid map with at most so many marks.
func (d *dice) aMap(side float32, most int) impl.LandMap {
	m := impl.LandMap{Side: side}
	for range d.below(most + 1) {
		m, _ = withMark(m, d.aMark(side))
	}
	return m
}

// like returns another map with most of the marks of m.
func (d *dice) like(m impl.LandMap) impl.LandMap {
	n := impl.LandMap{Side: m.Side}
	for _, x := range m.Marks {
		switch d.below(8) {
		case 0:
			continue
		case 1:
			x.At = d.point(m.Side)
		case 2:
			x.Last = int64(d.below(4))
		case 3:
			x.Weight = d.weight()
		}
		n.Marks = append(n.Marks, x)
	}
	return n
}

// plainMark has the weight 1 and has been seen once, at the time 5, in the middle of its cell.
func plainMark(i, j, k int32) impl.Mark {
	at := impl.Vec{float32(i) + 0.5, float32(j) + 0.5, float32(k) + 0.5}
	return impl.Mark{Cell: impl.Place{i, j, k}, At: at, Weight: 1, Seen: 1, Last: 5}
}

// mapOf returns a map with the side 1.
func mapOf(list ...impl.Mark) impl.LandMap { return impl.LandMap{Side: 1, Marks: list} }

// fullMap has as many marks as there may be, in the cells k, 0, 0 for k from 0 to 199.
func fullMap() impl.LandMap {
	m := mapOf()
	for k := range int32(200) {
		m.Marks = append(m.Marks, plainMark(k, 0, 0))
	}
	return m
}

// badSides returns numbers that are no sides, and no weights either.
func badSides() []float32 {
	return []float32{0, minusZero, -1, -tiniest, -greatest, infinite, -infinite, nan, otherNaN}
}

// badMarks returns marks that are not valid, each one for a reason of its own.
func badMarks() []impl.Mark {
	var list []impl.Mark
	put := func(change func(x *impl.Mark)) {
		x := plainMark(0, 0, 0)
		change(&x)
		list = append(list, x)
	}
	for _, a := range badSides() {
		put(func(x *impl.Mark) { x.Weight = a })
	}
	for i := range 3 {
		for _, a := range []float32{infinite, -infinite, nan, otherNaN} {
			put(func(x *impl.Mark) { x.At[i] = a })
		}
	}
	for _, k := range []int64{0, -1, 1000001, math.MinInt64, math.MaxInt64} {
		put(func(x *impl.Mark) { x.Seen = k })
	}
	for _, k := range noTimes() {
		put(func(x *impl.Mark) { x.Last = k })
	}
	return list
}

// badMaps returns maps that are not valid, each one for a reason of its own.
func badMaps() []impl.LandMap {
	a, b, c := plainMark(-1, 0, 0), plainMark(0, 0, 0), plainMark(0, 1, -1)
	list := []impl.LandMap{
		mapOf(b, a), mapOf(a, a), mapOf(a, b, b), mapOf(a, c, b), mapOf(c, a, b),
		mapOf(plainMark(0, 1, 0), plainMark(0, 0, 1)), mapOf(plainMark(0, 0, 1), plainMark(0, 0, 0)),
		mapOf(append(fullMap().Marks, plainMark(200, 0, 0))...),
	}
	for _, side := range badSides() {
		list = append(list, impl.LandMap{Side: side}, impl.LandMap{Side: side, Marks: []impl.Mark{a, b}})
	}
	for _, x := range badMarks() {
		list = append(list, mapOf(x), mapOf(a, x), mapOf(x, c), mapOf(a, x, c))
	}
	return list
}

func wantMark(t *testing.T, what string, got impl.Mark, code int64, want impl.Mark, wanted int64) {
	t.Helper()
	if !sameMark(got, want) {
		t.Errorf("%s: got %v, want %v", what, got, want)
	}
	wantCode(t, what, code, wanted)
}

func wantMarks(t *testing.T, what string, got []impl.Mark, code int64, want []impl.Mark, wanted int64) {
	t.Helper()
	if !sameMarks(got, want) {
		t.Errorf("%s: got %s, want %s", what, startOf(got), startOf(want))
	}
	wantCode(t, what, code, wanted)
}

func wantMap(t *testing.T, what string, got impl.LandMap, code int64, want impl.LandMap, wanted int64) {
	t.Helper()
	if !sameMap(got, want) {
		t.Errorf("%s: got %s, want %s", what, startOf(got), startOf(want))
	}
	wantCode(t, what, code, wanted)
}

func wantPlaces(t *testing.T, what string, got []impl.Place, code int64, want []impl.Place, wanted int64) {
	t.Helper()
	if !slices.Equal(got, want) {
		t.Errorf("%s: got %v, want %v", what, got, want)
	}
	wantCode(t, what, code, wanted)
}
