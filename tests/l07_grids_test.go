package tests

import (
	"fmt"
	"math"
	"slices"
	"testing"

	"loop.example/g01204/impl"
)

func TestExampleOfChapter7(t *testing.T) {
	g, code := impl.EmptyGrid(3, 3)
	wantGrid(t, "EmptyGrid", g, code, grid("...", "...", "..."), impl.OK)
	wantRoute(t, "BestRoute", g, spot(0, 0), spot(2, 2), 28, spot(0, 0), spot(1, 1), spot(2, 2))
	g, code = impl.WithCost(g, spot(1, 1), impl.Wall)
	wantGrid(t, "WithCost", g, code, grid("...", ".#.", "..."), impl.OK)
	wantRoute(t, "BestRoute", g, spot(0, 0), spot(2, 2), 40, spot(0, 0), spot(1, 0), spot(2, 0), spot(2, 1), spot(2, 2))
	line, code := impl.SpotsBetween(spot(0, 0), spot(2, 1))
	wantSpots(t, "SpotsBetween", line, code, []impl.Spot{{0, 0}, {1, 1}, {2, 1}}, impl.OK)
	ahead, code := impl.AheadOnWay([]point{{0, 0}, {4, 0}}, point{0, 0}, 1)
	wantPoint(t, "AheadOnWay", ahead, code, point{1, 0}, impl.OK)
}

func TestLimitsOfChapter7(t *testing.T) {
	wantBool(t, "limits", impl.MaxWide == 24 && impl.Wall == 255 && impl.MaxRoute == 600, true)
}

// goodGrids returns grids that are valid, some of them just so.
func goodGrids() []impl.Grid {
	full := func(wide, high int64, cost uint8) impl.Grid {
		return impl.Grid{Wide: wide, High: high, Costs: slices.Repeat([]uint8{cost}, int(wide*high))}
	}
	return []impl.Grid{
		grid("."), grid("#"), grid("9"), grid("..", ".#"), grid("123", "4.#"), grid("1", "2", "3"), grid("5#."),
		full(24, 24, 0), full(24, 24, 255), full(24, 1, 254), full(1, 24, 1), full(23, 24, 255), full(24, 23, 7), full(2, 12, 100),
	}
}

func TestValidGrids(t *testing.T) {
	each(goodGrids(), func(what string, g impl.Grid) {
		wantBool(t, "ValidGrid, "+what, impl.ValidGrid(g), true)
	})
	each(badGrids(), func(what string, g impl.Grid) {
		wantBool(t, "ValidGrid, "+what, impl.ValidGrid(g), false)
		wantBool(t, "ValidGrid in the tests, "+what, validGrid(g), false)
	})
	for cost := range 256 {
		wantBool(t, fmt.Sprint("ValidGrid, cost ", cost), impl.ValidGrid(impl.Grid{Wide: 1, High: 1, Costs: []uint8{uint8(cost)}}), true)
	}
	for wide := int64(-2); wide < 28; wide++ {
		for high := int64(-2); high < 28; high++ {
			for _, count := range []int64{wide * high, wide*high + 1, wide*high - 1, wide + high} {
				if count >= 0 {
					g := impl.Grid{Wide: wide, High: high, Costs: make([]uint8, count)}
					wantBool(t, startOf("ValidGrid ", wide, high, count), impl.ValidGrid(g), validGrid(g))
				}
			}
		}
	}
}

// TestGridsThatAreNotValid hands each of them to all functions that take one, with
// other arguments that would be errors as well.
func TestGridsThatAreNotValid(t *testing.T) {
	each(badGrids(), func(what string, g impl.Grid) {
		for _, s := range []impl.Spot{{0, 0}, {1, 0}, {-1, 0}, {30, 30}, {32767, -32768}} {
			cost, code := impl.CostAt(g, s)
			wantIndex(t, "CostAt, "+what, int64(cost), code, 0, impl.ErrInvalid)
			h, code := impl.WithCost(g, s, 7)
			wantGrid(t, "WithCost, "+what, h, code, impl.Grid{}, impl.ErrInvalid)
			list, code := impl.CostsTo(g, s)
			wantIntegers(t, "CostsTo, "+what, list, code, nil, impl.ErrInvalid)
			wantNoRoute(t, "BestRoute, "+what, g, s, spot(0, 0), impl.ErrInvalid)
			wantNoRoute(t, "BestRoute, "+what, g, spot(0, 0), s, impl.ErrInvalid)
			for _, seen := range []impl.Spot{s, {0, 0}} {
				sees, code := impl.SeesSpot(g, seen, s)
				wantBool(t, "SeesSpot, "+what, sees, false)
				wantCode(t, "SeesSpot, "+what, code, impl.ErrInvalid)
			}
			for _, route := range [][]impl.Spot{nil, {s}, {s, s}, make([]impl.Spot, 1000)} {
				wantBool(t, "ValidRoute, "+what, impl.ValidRoute(g, route), false)
				paid, code := impl.RouteCost(g, route)
				wantIndex(t, "RouteCost, "+what, paid, code, 0, impl.ErrInvalid)
				short, code := impl.ShortenRoute(g, route)
				wantSpots(t, "ShortenRoute, "+what, short, code, nil, impl.ErrInvalid)
			}
		}
		for _, by := range []int64{0, 1, -1, 24, 25, math.MaxInt64, math.MinInt64} {
			h, code := impl.GrowWalls(g, by)
			wantGrid(t, "GrowWalls, "+what, h, code, impl.Grid{}, impl.ErrInvalid)
		}
		if got := impl.GridText(g); got != "" {
			t.Errorf("GridText, %s: got %.100q", what, got)
		}
		wantBool(t, "SameGrid of itself, "+what, impl.SameGrid(g, copyOf(g)), true)
	})
}

func TestSameGrids(t *testing.T) {
	g := grid("12.", ".#3")
	wantBool(t, "SameGrid", impl.SameGrid(g, copyOf(g)), true)
	wantBool(t, "SameGrid of nothing", impl.SameGrid(impl.Grid{}, impl.Grid{Costs: []uint8{}}), true)
	unlike := func(what string, change func(h *impl.Grid)) {
		t.Helper()
		h := copyOf(g)
		change(&h)
		wantBool(t, "SameGrid, "+what, impl.SameGrid(g, h), false)
		wantBool(t, "SameGrid, the other way round, "+what, impl.SameGrid(h, g), false)
		wantBool(t, "SameGrid of itself, "+what, impl.SameGrid(h, copyOf(h)), true)
	}
	unlike("wide and high", func(h *impl.Grid) { h.Wide, h.High = 2, 3 })
	unlike("wide", func(h *impl.Grid) { h.Wide = 4 })
	unlike("high", func(h *impl.Grid) { h.High = 3 })
	unlike("wide, much more", func(h *impl.Grid) { h.Wide += 1 << 32 })
	unlike("high, much more", func(h *impl.Grid) { h.High += 1 << 32 })
	unlike("no costs", func(h *impl.Grid) { h.Costs = nil })
	unlike("a cost less", func(h *impl.Grid) { h.Costs = h.Costs[:5] })
	unlike("a cost more", func(h *impl.Grid) { h.Costs = append(h.Costs, 0) })
	for i := range g.Costs {
		unlike("a cost", func(h *impl.Grid) { h.Costs[i]++ })
	}
}

func TestEmptyGrids(t *testing.T) {
	for wide := int64(1); wide <= 24; wide++ {
		for high := int64(1); high <= 24; high++ {
			g, code := impl.EmptyGrid(wide, high)
			want := impl.Grid{Wide: wide, High: high, Costs: make([]uint8, wide*high)}
			wantGrid(t, fmt.Sprint("EmptyGrid ", wide, high), g, code, want, impl.OK)
		}
	}
	for _, n := range []int64{0, -1, -24, 25, 1 << 32, 1<<32 + 3, math.MaxInt64, math.MinInt64} {
		for _, m := range []int64{1, 24, 0, 25, n, -1} {
			g, code := impl.EmptyGrid(n, m)
			wantGrid(t, fmt.Sprint("EmptyGrid ", n, m), g, code, impl.Grid{}, impl.ErrRange)
			g, code = impl.EmptyGrid(m, n)
			wantGrid(t, fmt.Sprint("EmptyGrid ", m, n), g, code, impl.Grid{}, impl.ErrRange)
		}
	}
}

func TestCostsOfSpots(t *testing.T) {
	d := &dice{seed: 300}
	for range 60 {
		g := d.aGrid(24)
		before := copyOf(g)
		for i, s := range spotsOf(g) {
			cost, code := impl.CostAt(g, s)
			wantIndex(t, fmt.Sprint("CostAt ", s), int64(cost), code, int64(before.Costs[i]), impl.OK)
			for _, other := range []uint8{uint8(d.below(256)), impl.Wall, 0} {
				want := copyOf(before)
				want.Costs[i] = other
				h, code := impl.WithCost(g, s, other)
				wantGrid(t, fmt.Sprint("WithCost ", s), h, code, want, impl.OK)
			}
		}
		wantBool(t, "WithCost leaves the grid as it is", sameGrid(g, before), true)
		for _, s := range noSpots(g) {
			cost, code := impl.CostAt(g, s)
			wantIndex(t, fmt.Sprint("CostAt ", s), int64(cost), code, 0, impl.ErrRange)
			h, code := impl.WithCost(g, s, 1)
			wantGrid(t, fmt.Sprint("WithCost ", s), h, code, impl.Grid{}, impl.ErrRange)
		}
	}
	g := grid("123", "456")
	for i, s := range []impl.Spot{{0, 0}, {1, 0}, {2, 0}, {0, 1}, {1, 1}, {2, 1}} {
		cost, code := impl.CostAt(g, s)
		wantIndex(t, fmt.Sprint("CostAt, row by row, ", s), int64(cost), code, int64(10*i+10), impl.OK)
	}
}

func wantGrown(t *testing.T, g impl.Grid, by int64, rows ...string) {
	t.Helper()
	h, code := impl.GrowWalls(g, by)
	wantGrid(t, fmt.Sprint("GrowWalls by ", by, " ", g), h, code, grid(rows...), impl.OK)
}

func TestGrownWalls(t *testing.T) {
	g := grid(".....1", "......", "..#...", "......", "......", "2.....")
	wantGrown(t, g, 0, ".....1", "......", "..#...", "......", "......", "2.....")
	wantGrown(t, g, 1, ".....1", ".###..", ".###..", ".###..", "......", "2.....")
	wantGrown(t, g, 2, "#####1", "#####.", "#####.", "#####.", "#####.", "2.....")
	wantGrown(t, g, 3, "######", "######", "######", "######", "######", "######")
	wantGrown(t, g, 24, "######", "######", "######", "######", "######", "######")
	wantGrown(t, grid("#..", "...", "..."), 1, "##.", "##.", "...")
	wantGrown(t, grid("...", "...", "..#"), 1, "...", ".##", ".##")
	wantGrown(t, grid("..#", "...", "..."), 1, ".##", ".##", "...")
	wantGrown(t, grid("...", "...", "#.."), 1, "...", "##.", "##.")
	wantGrown(t, grid("#....#...."), 1, "##..###...") // those behind a wall that is new stay
	wantGrown(t, grid("#....#...."), 2, "########..")
	wantGrown(t, grid("#", ".", ".", ".", "9"), 3, "#", "#", "#", "#", "9")
	wantGrown(t, grid("#", ".", ".", ".", "9"), 4, "#", "#", "#", "#", "#")
	wantGrown(t, grid("19", "5."), 24, "19", "5.")
	wantGrown(t, impl.Grid{Wide: 1, High: 1, Costs: []uint8{255}}, 0, "#")
	nearly := impl.Grid{Wide: 2, High: 1, Costs: []uint8{254, 1}} // no wall
	h, code := impl.GrowWalls(nearly, 1)
	wantGrid(t, "GrowWalls of 254", h, code, nearly, impl.OK)
	corner, _ := impl.EmptyGrid(24, 24)
	corner.Costs[0] = 255
	h, code = impl.GrowWalls(corner, 22)
	wantGrid(t, "GrowWalls by 22", h, code, grownGrid(corner, 22), impl.OK)
	h, code = impl.GrowWalls(corner, 24)
	wantGrid(t, "GrowWalls by 24", h, code, impl.Grid{Wide: 24, High: 24, Costs: slices.Repeat([]uint8{255}, 576)}, impl.OK)
	for _, by := range []int64{-1, 25, 1 << 32, -1 << 32, math.MaxInt64, math.MinInt64} {
		for _, g := range goodGrids() {
			h, code := impl.GrowWalls(g, by)
			wantGrid(t, fmt.Sprint("GrowWalls by ", by), h, code, impl.Grid{}, impl.ErrRange)
		}
	}
}

func TestGrownWallsAgain(t *testing.T) {
	d := &dice{seed: 301}
	for range 300 {
		g, by := d.aGrid(12), d.below(5)
		h, code := impl.GrowWalls(g, int64(by))
		wantGrid(t, startOf("GrowWalls by ", by, g), h, code, grownGrid(g, by), impl.OK)
		twice, code := impl.GrowWalls(h, 1)
		once, _ := impl.GrowWalls(g, int64(by)+1)
		wantGrid(t, "GrowWalls twice", twice, code, once, impl.OK)
	}
}

// marksAt returns a map with a mark at each of some points, in cells side by side.
func marksAt(points ...point) impl.LandMap {
	var list []impl.Mark
	for i, p := range points {
		x := plainMark(int32(i), 0, 0)
		x.At = impl.Vec{p[0], p[1], float32(i)*1e30 - 1e30}
		list = append(list, x)
	}
	return mapOf(list...)
}

func wantUnder(t *testing.T, what string, m impl.LandMap, low point, side float32, rows ...string) {
	t.Helper()
	want := grid(rows...)
	g, code := impl.GridOfMarks(m, want.Wide, want.High, low, side)
	wantGrid(t, "GridOfMarks, "+what, g, code, want, impl.OK)
}

func TestGridsOfMarks(t *testing.T) {
	wantUnder(t, "no marks", mapOf(), point{}, 1, "...", "...")
	wantUnder(t, "in the middle", marksAt(point{1.5, 0.5}), point{}, 1, ".#.", "...")
	wantUnder(t, "y", marksAt(point{0.5, 1.5}), point{}, 1, "...", "#..")
	wantUnder(t, "at the low corner", marksAt(point{0, 0}), point{}, 1, "#..", "...")
	wantUnder(t, "-0", marksAt(point{minusZero, minusZero}), point{}, 1, "#..", "...")
	wantUnder(t, "at a border", marksAt(point{1, 1}), point{}, 1, "...", ".#.")
	wantUnder(t, "at the high border", marksAt(point{3, 1}, point{1, 2}), point{}, 1, "...", "...")
	wantUnder(t, "just before it", marksAt(point{math.Nextafter32(3, 0), math.Nextafter32(2, 0)}), point{}, 1, "...", "..#")
	wantUnder(t, "just outside", marksAt(point{-tiniest, 0}, point{0, -tiniest}, point{-0.5, 1}, point{1, -0.5}, point{-1, -1}), point{}, 1, "...", "...")
	wantUnder(t, "several in one", marksAt(point{2.25, 0}, point{2.75, 0.5}, point{2.5, 0.75}), point{}, 1, "..#", "...")
	wantUnder(t, "another one", marksAt(point{7, -4}, point{9.5, -2}), point{5, -5}, 2, ".#.", "..#")
	wantUnder(t, "small squares", marksAt(point{0.3, 0.1}), point{0.25, 0}, 0.0625, "..", "#.")
	wantUnder(t, "far away", marksAt(point{1e30, 0.5}, point{0.5, 1e30}, point{-1e30, 0.5}, point{40000, 0.5}, point{65536, 0}, point{0, -65536}, point{1 << 32, 0}), point{}, 1, "...", "...")
	wantUnder(t, "infinite differences", marksAt(point{greatest, 0}, point{0, greatest}), point{-greatest, -greatest}, 1, "...", "...")
	wantUnder(t, "infinite quotients", marksAt(point{1e30, 0}, point{0, 1e30}), point{}, tiniest, "...", "...")
	wantUnder(t, "the greatest side", marksAt(point{1, 2}), point{}, greatest, "#..", "...")
	wantUnder(t, "a quotient of -0", marksAt(point{-tiniest, -tiniest}), point{}, greatest, "#..", "...")
	wantUnder(t, "a quotient below 0", marksAt(point{-1, 0}), point{}, greatest, "...", "...")
	// The difference is rounded: it is 1, a little less before.
	wantUnder(t, "a rounded difference", marksAt(point{1, 0}), point{tiniest, 0}, 1, ".#.", "...")
	// 0.7 and 0.1 as narrow numbers have the quotient 7, which is a little less before it is rounded.
	wantUnder(t, "a rounded quotient", marksAt(point{0.3, 0.7}), point{}, 0.1, "....", "....", "....", "....", "....", "....", "....", "...#")
	wantUnder(t, "low is taken away", marksAt(point{-1, 0.5}), point{-1.5, 0}, 1, "#..", "...")
}

// TestGreatGridsOfMarks has marks in the last column and row that there may be, and
// behind them.
func TestGreatGridsOfMarks(t *testing.T) {
	want := impl.Grid{Wide: 24, High: 24, Costs: make([]uint8, 576)}
	want.Costs[23], want.Costs[23*24], want.Costs[575] = 255, 255, 255
	m := marksAt(point{23.5, 0}, point{0, 23}, point{23, 23.75}, point{24, 1}, point{1, 24}, point{24, 24})
	g, code := impl.GridOfMarks(m, 24, 24, point{}, 1)
	wantGrid(t, "GridOfMarks of the greatest size", g, code, want, impl.OK)
}

func TestGridsOfMarksAgain(t *testing.T) {
	d := &dice{seed: 302}
	walls := 0
	for range 3000 {
		side := d.aSide()
		m := d.aMap(side, 12)
		if d.below(2) == 0 {
			side = d.aSide()
		}
		wide, high := int64(1+d.below(24)), int64(1+d.below(24))
		low := point{held(product(d.whole(3), side)), held(product(d.unit(), side))}
		want := gridUnder(m, wide, high, low, side)
		g, code := impl.GridOfMarks(m, wide, high, low, side)
		wantGrid(t, startOf("GridOfMarks ", wide, high, low, side, m), g, code, want, impl.OK)
		if slices.Contains(want.Costs, 255) {
			walls++
		}
	}
	if walls < 500 {
		t.Errorf("too few grids with walls: %d", walls)
	}
}

func TestGridsOfMarksThatAreNone(t *testing.T) {
	none := func(what string, m impl.LandMap, wide, high int64, low point, side float32, want int64) {
		t.Helper()
		g, code := impl.GridOfMarks(m, wide, high, low, side)
		wantGrid(t, "GridOfMarks, "+what, g, code, impl.Grid{}, want)
	}
	good := marksAt(point{0.5, 0.5})
	for _, m := range []impl.LandMap{good, mapOf(), fullMap()} {
		for _, n := range []int64{0, -1, 25, 1<<32 + 1, math.MaxInt64, math.MinInt64} {
			none("size", m, n, 3, point{}, 1, impl.ErrRange)
			none("size", m, 3, n, point{}, 1, impl.ErrRange)
			none("size", m, n, n, point{}, 1, impl.ErrRange)
		}
		for _, a := range notFinite() {
			none("low", m, 3, 3, point{a, 0}, 1, impl.ErrRange)
			none("low", m, 3, 3, point{0, a}, 1, impl.ErrRange)
		}
		for _, a := range badSides() {
			none("side", m, 3, 3, point{}, a, impl.ErrRange)
		}
	}
	each(badMaps(), func(what string, m impl.LandMap) {
		none(what, m, 3, 3, point{}, 1, impl.ErrInvalid)
		none(what, m, 0, 3, point{}, 1, impl.ErrInvalid)
		none(what, m, 3, 25, point{nan, 0}, 1, impl.ErrInvalid)
		none(what, m, 3, 3, point{}, -1, impl.ErrInvalid)
	})
}
