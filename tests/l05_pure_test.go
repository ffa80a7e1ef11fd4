package tests

import (
	"fmt"
	"math"
	"strings"
	"testing"

	"loop.example/g01204/impl"
)

// markArguments has something for every function of chapter 5.
type markArguments struct {
	m, n            impl.LandMap
	x, y            impl.Mark
	cell            impl.Place
	v               impl.Vec
	list            []impl.Vec
	a, gate, weight float32
	time            int64
	text            string
}

// answers calls every function and writes all results, numbers by their bits.
// What is returned is overwritten then, as far as it has room.
func (g *markArguments) answers() string {
	var out strings.Builder
	add := func(list ...any) { fmt.Fprintln(&out, list...) }
	mark := func(x impl.Mark) {
		add(x.Cell, bitsOf(x.At[:]...), bitsOf(x.Weight), x.Seen, x.Last)
	}
	marks := func(list []impl.Mark, code int64) {
		add(len(list), code)
		for i, x := range list[:cap(list)] {
			if i < len(list) {
				mark(x)
			}
			list[:cap(list)][i] = plainMark(-5, 7, 7)
		}
	}
	land := func(m impl.LandMap, code int64) {
		add(bitsOf(m.Side))
		marks(m.Marks, code)
	}
	one := func(x impl.Mark, code int64) {
		add(code)
		mark(x)
	}
	add(impl.CellOf(g.a, g.v))
	add(impl.ComparePlaces(g.cell, g.x.Cell), impl.BetterMark(g.x, g.y), impl.ValidMap(g.m), impl.SameMap(g.m, g.n))
	land(impl.EmptyMap(g.a))
	one(impl.MarkIn(g.m, g.cell))
	land(impl.PutMark(g.m, g.x))
	one(impl.NearestMark(g.m, g.v, g.gate))
	marks(impl.MarksWithin(g.m, g.v, g.gate))
	m, cell, code := impl.ObserveMark(g.m, g.v, g.weight, g.time, g.gate)
	add(cell)
	land(m, code)
	m, count, code := impl.ObserveAll(g.m, g.list, g.weight, g.time, g.gate)
	add(count)
	land(m, code)
	m, _, code = impl.ObserveAll(g.m, nil, g.weight, g.time, g.gate)
	land(m, code)
	land(impl.MergeMaps(g.m, g.n))
	land(impl.MergeMaps(g.m, g.m))
	land(impl.ForgetBefore(g.m, g.time))
	land(impl.ForgetBefore(g.m, 0))
	land(impl.LeaveLighter(g.m, g.weight))
	land(impl.LeaveLighter(g.m, 0))
	v, code := impl.CentreOf(g.m)
	add(bitsOf(v[:]...), code)
	places, code := impl.UnlikeCells(g.m, g.n)
	add(places, code)
	for i := range places[:cap(places)] {
		places[:cap(places)][i] = impl.Place{77, 77, 77}
	}
	add(impl.MapText(g.m))
	land(impl.ReadMap(g.text))
	return out.String()
}

// withRoom returns a copy whose slices have room behind them.
func (g *markArguments) withRoom() markArguments {
	h := *g
	h.m.Marks, h.n.Marks = roomy(g.m.Marks, plainMark(1, 2, 3)), roomy(g.n.Marks, plainMark(4, 5, 6))
	h.list = roomy(g.list, impl.Vec{9, 9, 9})
	return h
}

// all writes the slices, with the room behind them.
func (g *markArguments) all() string {
	return fmt.Sprint(g.m.Side, g.m.Marks[:len(g.m.Marks)+3], g.n.Side, g.n.Marks[:len(g.n.Marks)+3], g.list[:len(g.list)+3])
}

// anyMarking returns arguments of which some are not valid.
func (d *dice) anyMarking() markArguments {
	side := d.aSide()
	g := markArguments{m: d.aMap(side, 40), n: d.aMap(side, 40), x: d.aMark(side), y: d.aMark(side), v: d.point(side), a: side, weight: d.weight(), time: int64(d.below(5))}
	g.cell, g.gate = g.y.Cell, held(product(d.whole(3)+3, side))
	for range d.below(9) {
		g.list = append(g.list, d.point(side))
	}
	g.text = rawMapText(g.n)
	if d.below(2) == 0 {
		g.n = d.like(g.m)
	}
	switch d.below(12) {
	case 0:
		list := badMaps()
		g.m = list[d.below(len(list))]
	case 1:
		list := badMaps()
		g.n = list[d.below(len(list))]
	case 2:
		list := badMarks()
		g.x = list[d.below(len(list))]
	case 3:
		g.v, g.a, g.gate = vecFrom(d.any), d.any(), d.any()
	case 4:
		g.weight, g.text = d.any(), g.text[:d.below(len(g.text))]
	case 5:
		g.time, g.n.Side = noTimes()[d.below(7)], d.any()
	}
	return g
}

func TestEqualMapsHaveEqualResults(t *testing.T) {
	d := &dice{seed: 190}
	list := make([]markArguments, 1500)
	first := make([]string, len(list))
	for i := range list {
		list[i] = d.anyMarking()
		first[i] = list[i].answers()
	}
	for i := len(list) - 1; i >= 0; i-- { // in another order, so that a state that is kept would be seen
		g := list[i].withRoom()
		before := g.all()
		if got := g.answers(); got != first[i] {
			t.Fatalf("other results for equal arguments:\n%s\n%s", first[i], got)
		}
		if after := g.all(); after != before {
			t.Fatalf("an argument was modified, or what lies behind it:\n%s\n%s", before, after)
		}
	}
}

// TestEverySpecialNumberOfMaps puts each special number into each place: nothing may panic.
func TestEverySpecialNumberOfMaps(t *testing.T) {
	d := &dice{seed: 191}
	for _, a := range specials() {
		for i := range 3 {
			for range 4 {
				g := d.anyMarking()
				g.v[i], g.a = a, a
				g.answers()
				g.gate = a
				g.answers()
				g.weight = a
				g.x.At[i], g.y.Weight = a, a
				g.answers()
				g.m.Marks = append(g.m.Marks, plainMark(1000, 0, 0), plainMark(1001, 0, 0))
				g.m.Marks[0].At[i] = a
				g.answers()
				g.m.Marks[0] = plainMark(-1000, 0, 0)
				g.m.Marks[0].Weight, g.m.Side, g.n.Side = a, a, a
				g.answers()
			}
		}
	}
}

// TestEveryGreatCell puts integers that a careless program adds to into each place.
func TestEveryGreatCell(t *testing.T) {
	d := &dice{seed: 192}
	cells := []int32{math.MaxInt32, math.MinInt32, math.MaxInt32 - 1, math.MinInt32 + 1, 0, -1, 1000001, -1000001}
	for _, a := range cells {
		for _, k := range []int64{0, 1, -1, 1000000, 1000001, 1000000000, math.MaxInt64, math.MinInt64} {
			g := d.anyMarking()
			g.cell = impl.Place{a, -a, a}
			g.x.Cell, g.x.Seen, g.y.Last = g.cell, k, k
			g.m = mapOf(impl.Mark{Cell: g.cell, Weight: 1, Seen: 1000000, Last: 1000000000})
			g.time = k
			g.v = impl.Vec{1000000, -1000000, 1000000}
			g.answers()
			g.v = impl.Vec{-1000000, 1000000, float32(a)}
			g.m.Marks[0].Seen, g.m.Marks[0].Last = k, k
			g.answers()
		}
	}
}

// TestLongMaps has lists of many elements.
func TestLongMaps(t *testing.T) {
	g := (&dice{seed: 193}).anyMarking()
	g.m, g.n = mapOf(make([]impl.Mark, 80000)...), mapOf(make([]impl.Mark, 80000)...)
	for i := range g.m.Marks {
		g.m.Marks[i], g.n.Marks[i] = plainMark(int32(i), 0, 0), plainMark(int32(i), 0, 0)
	}
	g.list, g.text = make([]impl.Vec, 200000), rawMapText(g.m)
	first := g.answers()
	wantBool(t, "equal results", g.answers() == first, true)
	wantBool(t, "SameMap of very long maps", impl.SameMap(g.m, g.n), true)
	g.n.Marks[79999].Seen = 2
	wantBool(t, "SameMap of very long maps", impl.SameMap(g.m, g.n), false)
	_, code := impl.MergeMaps(g.m, g.n)
	wantCode(t, "MergeMaps of very long maps", code, impl.ErrInvalid)
	_, code = impl.ReadMap(g.text)
	wantCode(t, "ReadMap of a long text", code, impl.ErrRange)
}
