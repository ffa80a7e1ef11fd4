package tests

import (
	"fmt"
	"slices"
	"testing"

	"loop.example/g01204/impl"
)

// route lists spots.
func route(list ...impl.Spot) []impl.Spot { return list }

func wantCosts(t *testing.T, g impl.Grid, goal impl.Spot, want ...int64) {
	t.Helper()
	got, code := impl.CostsTo(g, goal)
	wantIntegers(t, fmt.Sprint("CostsTo ", goal, g), got, code, want, impl.OK)
}

func TestCostsToGoals(t *testing.T) {
	wantCosts(t, grid("."), spot(0, 0), 0)
	wantCosts(t, grid("9"), spot(0, 0), 0)
	wantCosts(t, grid("...", "...", "..."), spot(0, 0), 0, 10, 20, 10, 14, 24, 20, 24, 28)
	wantCosts(t, grid("...", "...", "..."), spot(1, 1), 14, 10, 14, 10, 0, 10, 14, 10, 14)
	wantCosts(t, grid("...", ".#.", "..."), spot(2, 2), 40, 30, 20, 30, -1, 10, 20, 10, 0)
	wantCosts(t, grid("..."), spot(2, 0), 20, 10, 0)
	wantCosts(t, grid(".", ".", "."), spot(0, 1), 10, 0, 10)
	wantCosts(t, grid("123"), spot(0, 0), 0, 20, 50) // with the cost of each spot to which a step leads
	wantCosts(t, grid("123"), spot(2, 0), 70, 40, 0)
	wantCosts(t, grid("1.", "#2"), spot(0, 0), 0, 20, -1, 30)
	wantCosts(t, grid(".#."), spot(0, 0), 0, -1, -1)
	wantCosts(t, grid(".#.", "##.", "..."), spot(0, 0), 0, -1, -1, -1, -1, -1, -1, -1, -1)
	wantCosts(t, grid(".#", "#."), spot(1, 1), -1, -1, -1, 0) // no way between two walls
	wantCosts(t, grid(".#", ".."), spot(0, 0), 0, -1, 10, 20)
	wantCosts(t, grid("..", "#."), spot(0, 0), 0, 10, -1, 20)
	wantCosts(t, grid(".9.", "..."), spot(2, 0), 28, 10, 0, 24, 14, 10) // around what is dear
	wantCosts(t, impl.Grid{Wide: 3, High: 1, Costs: []uint8{254, 254, 254}}, spot(0, 0), 0, 264, 528)
}

func TestRoutesThatAreBest(t *testing.T) {
	wantRoute(t, "itself", grid("."), spot(0, 0), spot(0, 0), 0, spot(0, 0))
	wantRoute(t, "itself, dear", grid("999", "99#"), spot(1, 1), spot(1, 1), 0, spot(1, 1))
	wantRoute(t, "itself, walled in", grid(".#.", "##."), spot(0, 0), spot(0, 0), 0, spot(0, 0))
	wantRoute(t, "a row", grid("12345"), spot(1, 0), spot(4, 0), 150, spot(1, 0), spot(2, 0), spot(3, 0), spot(4, 0))
	wantRoute(t, "a row back", grid("12345"), spot(3, 0), spot(1, 0), 70, spot(3, 0), spot(2, 0), spot(1, 0))
	wantRoute(t, "a column", grid("1", "2", "3"), spot(0, 2), spot(0, 0), 50, spot(0, 2), spot(0, 1), spot(0, 0))
	wantRoute(t, "around what is dear", grid("..9..", "....."), spot(0, 0), spot(4, 0), 48, spot(0, 0), spot(1, 0), spot(2, 1), spot(3, 1), spot(4, 0))
	wantRoute(t, "through what is not so dear", grid(".", ".", "1", "."), spot(0, 0), spot(0, 3), 40, spot(0, 0), spot(0, 1), spot(0, 2), spot(0, 3))
	wantRoute(t, "not by a corner", grid(".#", ".."), spot(0, 0), spot(1, 1), 20, spot(0, 0), spot(0, 1), spot(1, 1))
	wantRoute(t, "not by a corner", grid("..", "#."), spot(0, 0), spot(1, 1), 20, spot(0, 0), spot(1, 0), spot(1, 1))
	wantRoute(t, "not by a corner", grid("..", ".#"), spot(1, 0), spot(0, 1), 20, spot(1, 0), spot(0, 0), spot(0, 1))
	wantRoute(t, "not by a corner", grid("#.", ".."), spot(1, 0), spot(0, 1), 20, spot(1, 0), spot(1, 1), spot(0, 1))
	wantRoute(t, "by what is dear", grid(".9", "9."), spot(0, 0), spot(1, 1), 14, spot(0, 0), spot(1, 1))
	almost := impl.Grid{Wide: 2, High: 2, Costs: []uint8{0, 254, 254, 0}}
	wantRoute(t, "by what is nearly a wall", almost, spot(1, 1), spot(0, 0), 14, spot(1, 1), spot(0, 0))
	wantRoute(t, "to what is nearly a wall", almost, spot(1, 1), spot(1, 0), 264, spot(1, 1), spot(1, 0))
	wantRoute(t, "two straight steps cost more", grid("..", ".."), spot(0, 1), spot(1, 0), 14, spot(0, 1), spot(1, 0))
}

// TestTiesOfRoutes has the first of the best steps: straight ones come first.
func TestTiesOfRoutes(t *testing.T) {
	g := grid(".....", ".....", ".....", ".....", ".....")
	c := spot(2, 2)
	for _, way := range []struct{ first, second impl.Spot }{
		{spot(1, 0), spot(1, 1)}, {spot(0, 1), spot(1, 1)}, {spot(-1, 0), spot(-1, 1)}, {spot(0, 1), spot(-1, 1)},
		{spot(-1, 0), spot(-1, -1)}, {spot(0, -1), spot(-1, -1)}, {spot(1, 0), spot(1, -1)}, {spot(0, -1), spot(1, -1)},
	} {
		middle := gone(c, way.first)
		goal := gone(middle, way.second)
		wantRoute(t, fmt.Sprint("straight, then slanted, ", goal), g, c, goal, 24, c, middle, goal)
	}
	// Around a wall, as far on one side as on the other.
	wantRoute(t, "x + 1 or y + 1", grid("...", ".#.", "..."), spot(0, 0), spot(2, 2), 40, spot(0, 0), spot(1, 0), spot(2, 0), spot(2, 1), spot(2, 2))
	wantRoute(t, "y + 1 or x - 1", grid("...", ".#.", "..."), spot(2, 0), spot(0, 2), 40, spot(2, 0), spot(2, 1), spot(2, 2), spot(1, 2), spot(0, 2))
	wantRoute(t, "x - 1 or y - 1", grid("...", ".#.", "..."), spot(2, 2), spot(0, 0), 40, spot(2, 2), spot(1, 2), spot(0, 2), spot(0, 1), spot(0, 0))
	wantRoute(t, "x + 1 or y - 1", grid("...", ".#.", "..."), spot(0, 2), spot(2, 0), 40, spot(0, 2), spot(1, 2), spot(2, 2), spot(2, 1), spot(2, 0))
	wantRoute(t, "x + 1 or x - 1", grid("...", "#.#", "...", ".#.", "..."), spot(1, 2), spot(1, 4), 40, spot(1, 2), spot(2, 2), spot(2, 3), spot(2, 4), spot(1, 4))
	wantRoute(t, "y + 1 or y - 1", grid("...", ".#.", "..."), spot(0, 1), spot(2, 1), 40, spot(0, 1), spot(0, 2), spot(1, 2), spot(2, 2), spot(2, 1))
	// The spots between have costs, so that a slanted step and what follows costs as much as another one.
	wantRoute(t, "x + 1, y + 1 or x - 1, y + 1", grid("...", "...", "171", "..."), spot(1, 1), spot(1, 3), 38, spot(1, 1), spot(2, 2), spot(1, 3))
	wantRoute(t, "x + 1, y + 1 or x + 1, y - 1", grid("..1.", "..7.", "..1."), spot(1, 1), spot(3, 1), 38, spot(1, 1), spot(2, 2), spot(3, 1))
	wantRoute(t, "x - 1, y + 1 or x - 1, y - 1", grid("..1.", "..7.", "..1."), spot(3, 1), spot(1, 1), 38, spot(3, 1), spot(2, 2), spot(1, 1))
	wantRoute(t, "x - 1, y - 1 or x + 1, y - 1", grid("...", "171", "..."), spot(1, 2), spot(1, 0), 38, spot(1, 2), spot(0, 1), spot(1, 0))
}

func TestNoRoutes(t *testing.T) {
	g := grid(".#..", "..#.", "#..#")
	list := func(goal impl.Spot, want int64) {
		t.Helper()
		got, code := impl.CostsTo(g, goal)
		wantIntegers(t, fmt.Sprint("CostsTo ", goal), got, code, nil, want)
	}
	free, wall := spot(0, 0), spot(1, 0)
	for _, none := range noSpots(g) {
		list(none, impl.ErrRange)
		for _, s := range []impl.Spot{free, wall, none} {
			wantNoRoute(t, fmt.Sprint("from none to ", s), g, none, s, impl.ErrRange)
			wantNoRoute(t, fmt.Sprint("to none from ", s), g, s, none, impl.ErrRange)
		}
	}
	for i, s := range spotsOf(g) {
		if g.Costs[i] != 255 {
			continue
		}
		list(s, impl.ErrState)
		wantNoRoute(t, "from a wall", g, s, free, impl.ErrState)
		wantNoRoute(t, "to a wall", g, free, s, impl.ErrState)
		wantNoRoute(t, "from a wall to one", g, s, wall, impl.ErrState)
		wantNoRoute(t, "from a wall to itself", g, s, s, impl.ErrState)
		wantNoRoute(t, "from a wall to where no route is", g, s, spot(3, 0), impl.ErrState)
	}
	for _, s := range []impl.Spot{{2, 0}, {3, 0}, {3, 1}} {
		wantNoRoute(t, "no route", g, free, s, impl.ErrNotFound)
		wantNoRoute(t, "no route back", g, s, free, impl.ErrNotFound)
	}
	wantNoRoute(t, "between two corners", grid(".#", "#."), spot(0, 0), spot(1, 1), impl.ErrNotFound)
	wantNoRoute(t, "between two corners", grid("#.", ".#"), spot(0, 1), spot(1, 0), impl.ErrNotFound)
	wantNoRoute(t, "walled in", grid("...", ".##", ".#."), spot(0, 0), spot(2, 2), impl.ErrNotFound)
}

// TestAllRoutesOfSmallGrids looks for the best one among all routes.
func TestAllRoutesOfSmallGrids(t *testing.T) {
	check := func(g impl.Grid) {
		t.Helper()
		spots := spotsOf(g)
		for _, to := range spots {
			if isWall(g, int(to[0]), int(to[1])) {
				continue
			}
			costs, code := impl.CostsTo(g, to)
			wantCode(t, startOf("CostsTo ", to, g), code, impl.OK)
			for i, from := range spots {
				if isWall(g, int(from[0]), int(from[1])) {
					wantIndex(t, "CostsTo, a wall", costs[i], code, -1, impl.OK)
					continue
				}
				best, least := searched(g, from, to)
				if best == nil {
					wantIndex(t, "CostsTo, no route", costs[i], code, -1, impl.OK)
					wantNoRoute(t, startOf("BestRoute ", from, to, g), g, from, to, impl.ErrNotFound)
					continue
				}
				wantIndex(t, "CostsTo", costs[i], code, least, impl.OK)
				wantRoute(t, startOf("BestRoute ", from, to, g), g, from, to, least, best...)
			}
		}
	}
	kinds := []uint8{0, 10, 255}
	for k := range 729 { // all grids of 3 times 2 with these costs
		g := impl.Grid{Wide: 3, High: 2}
		for range 6 {
			g.Costs = append(g.Costs, kinds[k%3])
			k /= 3
		}
		check(g)
	}
	d := &dice{seed: 310}
	for range 40 {
		g := impl.Grid{Wide: 3, High: 3}
		of := d.costs()
		for range 9 {
			g.Costs = append(g.Costs, of())
		}
		check(g)
	}
}

// costThrough returns what it costs to go on from a spot by a neighbour, or -1.
func costThrough(g impl.Grid, costs []int64, from, by impl.Spot) int64 {
	to := gone(from, by)
	if step := costOfMove(g, from, to); step >= 0 && costs[placeOf(g, to)] >= 0 {
		return step + costs[placeOf(g, to)]
	}
	return -1
}

// tied returns a grid, and a goal in it, to which the neighbours i and j of the spot
// in the middle lead equally well, and no other one does, and reports whether it
// found one.
func (d *dice) tied(i, j int) (impl.Grid, impl.Spot, bool) {
	g := impl.Grid{Wide: 7, High: 7}
	of := d.costs()
	for range 49 {
		g.Costs = append(g.Costs, of())
	}
	from, goal := spot(3, 3), d.aSpot(g)
	g.Costs[placeOf(g, from)], g.Costs[placeOf(g, goal)] = 0, 0
	for _, by := range compass() {
		if to := gone(from, by); to != goal {
			g.Costs[placeOf(g, to)] = 250
		}
	}
	first, second := gone(from, compass()[i]), gone(from, compass()[j])
	g.Costs[placeOf(g, first)], g.Costs[placeOf(g, second)] = 100, 100
	costs := costsFromAll(g, goal)
	a, b := costThrough(g, costs, from, compass()[i]), costThrough(g, costs, from, compass()[j])
	if goal == from || a < 0 || b < 0 || a-b > 100 || b-a > 100 {
		return g, goal, false
	}
	g.Costs[placeOf(g, first)] -= uint8(max(a-b, 0))
	g.Costs[placeOf(g, second)] -= uint8(max(b-a, 0))
	costs = costsFromAll(g, goal)
	for k, by := range compass() {
		if (costThrough(g, costs, from, by) == costs[placeOf(g, from)]) != (k == i || k == j) {
			return g, goal, false
		}
	}
	return g, goal, true
}

// TestTiesOfAllNeighbours has grids in which two neighbours lead on equally well.
func TestTiesOfAllNeighbours(t *testing.T) {
	d := &dice{seed: 314}
	for i := range 8 {
		for j := i + 1; j < 8; j++ {
			found := 0
			for tries := 0; found < 10 && tries < 3000; tries++ {
				g, goal, ok := d.tied(i, j)
				if !ok {
					continue
				}
				found++
				costs := costsFromAll(g, goal)
				best := routeAlong(g, costs, spot(3, 3), goal)
				wantBool(t, "the first neighbour", best[1] == gone(best[0], compass()[i]), true)
				wantRoute(t, startOf("BestRoute to ", goal, g), g, spot(3, 3), goal, costs[24], best...)
			}
			if found < 10 {
				t.Errorf("too few ties of the neighbours %d and %d: %d", i, j, found)
			}
		}
	}
}

func TestRoutesAgain(t *testing.T) {
	d := &dice{seed: 311}
	found := map[int64]int{}
	for range 1500 {
		g := d.aGrid(14)
		to, ok := d.aFreeSpot(g)
		if !ok {
			continue
		}
		costs := costsFromAll(g, to)
		wantCosts(t, g, to, costs...)
		for range 12 {
			from, ok := d.aFreeSpot(g)
			if !ok {
				continue
			}
			cost := costs[placeOf(g, from)]
			if cost < 0 {
				wantNoRoute(t, startOf("BestRoute ", from, to, g), g, from, to, impl.ErrNotFound)
				found[impl.ErrNotFound]++
				continue
			}
			best := routeAlong(g, costs, from, to)
			wantRoute(t, startOf("BestRoute ", from, to, g), g, from, to, cost, best...)
			found[impl.OK]++
		}
	}
	if found[impl.OK] < 5000 || found[impl.ErrNotFound] < 1000 {
		t.Errorf("too few of a kind: %v", found)
	}
}

// TestBestRoutesAreRoutes has what is promised: they are routes, and no route costs less.
func TestBestRoutesAreRoutes(t *testing.T) {
	d := &dice{seed: 312}
	for range 2000 {
		g := d.aGrid(24)
		from, ok := d.aFreeSpot(g)
		if !ok {
			continue
		}
		walk := d.aWalk(g, from, 1+d.below(60))
		to := walk[len(walk)-1]
		best, cost, code := impl.BestRoute(g, from, to)
		wantCode(t, "BestRoute", code, impl.OK)
		wantBool(t, "BestRoute, from its first spot to its last one", best[0] == from && best[len(best)-1] == to, true)
		wantBool(t, "ValidRoute of it", impl.ValidRoute(g, best), true)
		paid, code := impl.RouteCost(g, best)
		wantIndex(t, "RouteCost of it", paid, code, cost, impl.OK)
		other, code := impl.RouteCost(g, walk)
		wantCode(t, "RouteCost of another one", code, impl.OK)
		if other < cost {
			t.Errorf("BestRoute %v to %v in %s: another one costs %d, less than %d", from, to, startOf(g), other, cost)
		}
		costs, code := impl.CostsTo(g, to)
		wantCode(t, "CostsTo", code, impl.OK)
		wantIndex(t, "CostsTo", costs[placeOf(g, from)], code, cost, impl.OK)
	}
}

// snake returns a grid of the greatest size with one long corridor, and its ends.
func snake() (impl.Grid, impl.Spot, impl.Spot) {
	g := impl.Grid{Wide: 24, High: 24, Costs: make([]uint8, 576)}
	for i, s := range spotsOf(g) {
		door := int16(0)
		if s[1]%4 == 1 {
			door = 23
		}
		if s[1]%2 == 1 && s[0] != door {
			g.Costs[i] = 255
		}
	}
	return g, spot(0, 0), spot(0, 23)
}

func TestLongRoutes(t *testing.T) {
	g, from, to := snake()
	best, cost, code := impl.BestRoute(g, from, to)
	wantCode(t, "BestRoute of a snake", code, impl.OK)
	wantIndex(t, "BestRoute of a snake", int64(len(best)), code, 12*24+12, impl.OK)
	wantIndex(t, "BestRoute of a snake", cost, code, 10*(12*24+11), impl.OK)
	back, cost, code := impl.BestRoute(g, to, from)
	wantIndex(t, "BestRoute of a snake, back", cost, code, 10*(12*24+11), impl.OK)
	slices.Reverse(back)
	wantSpots(t, "BestRoute of a snake, back", back, code, best, impl.OK)
	for i := range g.Costs {
		if g.Costs[i] == 0 {
			g.Costs[i] = 254
		}
	}
	same, cost, code := impl.BestRoute(g, from, to)
	wantSpots(t, "BestRoute of a dear snake", same, code, best, impl.OK)
	wantIndex(t, "BestRoute of a dear snake", cost, code, 264*(12*24+11), impl.OK)
	open, _ := impl.EmptyGrid(24, 24)
	_, cost, code = impl.BestRoute(open, spot(23, 0), spot(0, 23))
	wantIndex(t, "BestRoute across", cost, code, 23*14, impl.OK)
}

func wantValidRoute(t *testing.T, what string, g impl.Grid, cost int64, list ...impl.Spot) {
	t.Helper()
	wantBool(t, "ValidRoute, "+what, impl.ValidRoute(g, list), true)
	got, code := impl.RouteCost(g, list)
	wantIndex(t, "RouteCost, "+what, got, code, cost, impl.OK)
}

func wantInvalidRoute(t *testing.T, what string, g impl.Grid, list ...impl.Spot) {
	t.Helper()
	wantBool(t, "ValidRoute, "+what, impl.ValidRoute(g, list), false)
	cost, code := impl.RouteCost(g, list)
	wantIndex(t, "RouteCost, "+what, cost, code, 0, impl.ErrInvalid)
	short, code := impl.ShortenRoute(g, list)
	wantSpots(t, "ShortenRoute, "+what, short, code, nil, impl.ErrInvalid)
}

func TestRoutesThatAreValid(t *testing.T) {
	g := grid("123", "456", "7#8")
	wantValidRoute(t, "one spot", g, 0, spot(2, 2))
	wantValidRoute(t, "straight and slanted", g, 164, spot(0, 0), spot(1, 0), spot(2, 1), spot(1, 1))
	wantValidRoute(t, "there and back", g, 10+20+10+10+10+20, spot(0, 0), spot(1, 0), spot(0, 0), spot(1, 0))
	for i, by := range compass() {
		cost := int64(10)
		if i >= 4 {
			cost = 14
		}
		open := grid("...", "...", "...")
		to := gone(spot(1, 1), by)
		wantValidRoute(t, fmt.Sprint("a step by ", by), open, cost, spot(1, 1), to)
		wantValidRoute(t, fmt.Sprint("steps by ", by), open, 2*cost, spot(1, 1), to, spot(1, 1))
		open.Costs[placeOf(open, to)] = 33
		wantValidRoute(t, fmt.Sprint("a step to a cost by ", by), open, cost+33, spot(1, 1), to)
		open.Costs[placeOf(open, to)] = 0
		open.Costs[4] = 33
		wantValidRoute(t, fmt.Sprint("a step from a cost by ", by), open, cost, spot(1, 1), to)
	}
	wantInvalidRoute(t, "no spot", g)
	wantInvalidRoute(t, "a wall", g, spot(1, 2))
	wantInvalidRoute(t, "from a wall", g, spot(1, 2), spot(1, 1))
	wantInvalidRoute(t, "to a wall", g, spot(1, 1), spot(1, 2))
	wantInvalidRoute(t, "through a wall", g, spot(0, 2), spot(1, 2), spot(2, 2))
	wantInvalidRoute(t, "by a wall", g, spot(0, 2), spot(1, 1))
	wantInvalidRoute(t, "by a wall", g, spot(1, 1), spot(0, 2))
	wantInvalidRoute(t, "by a wall", g, spot(1, 1), spot(2, 2))
	wantInvalidRoute(t, "by a wall", g, spot(2, 2), spot(1, 1))
	wantInvalidRoute(t, "a spot twice", g, spot(0, 0), spot(0, 0))
	wantInvalidRoute(t, "a spot twice", g, spot(0, 0), spot(1, 0), spot(1, 0))
	wantInvalidRoute(t, "too far", g, spot(0, 0), spot(2, 0))
	wantInvalidRoute(t, "too far", g, spot(0, 0), spot(0, 2))
	wantInvalidRoute(t, "too far", g, spot(0, 0), spot(1, 1), spot(0, 0), spot(2, 1))
	wantInvalidRoute(t, "too far", g, spot(2, 2), spot(0, 0))
	wantInvalidRoute(t, "from the end of a row to the next one", g, spot(2, 0), spot(0, 1))
	for _, none := range noSpots(g) {
		wantInvalidRoute(t, "none", g, none)
		wantInvalidRoute(t, "none", g, none, spot(0, 0))
		wantInvalidRoute(t, "none", g, spot(0, 0), none)
		wantInvalidRoute(t, "none", g, spot(0, 2), none)
		wantInvalidRoute(t, "none", g, spot(2, 0), spot(1, 0), none)
		wantInvalidRoute(t, "none", g, none, none)
	}
	around := impl.Grid{Wide: 1, High: 1, Costs: []uint8{0}}
	wantInvalidRoute(t, "around the numbers", around, spot(32767, 0), spot(-32768, 0))
	wantInvalidRoute(t, "around the numbers", around, spot(0, 0), spot(0, -32768))
}

func TestRoutesWithMostSpots(t *testing.T) {
	g := grid("..", "..")
	long := slices.Repeat(route(spot(0, 0), spot(1, 0)), 300)
	wantValidRoute(t, "600 spots", g, 5990, long...)
	slanted := slices.Repeat(route(spot(1, 0), spot(0, 1)), 300)
	wantValidRoute(t, "600 spots", g, 599*14, slanted...)
	wantInvalidRoute(t, "601 spots", g, append(slices.Clone(long), spot(0, 0))...)
	wantInvalidRoute(t, "602 spots", g, append(slices.Clone(long), long[:2]...)...)
	wantInvalidRoute(t, "many spots", g, slices.Repeat(long, 1000)...)
	dear := impl.Grid{Wide: 2, High: 1, Costs: []uint8{254, 254}}
	wantValidRoute(t, "600 dear spots", dear, 599*264, long...)
}

func TestRouteCostsAgain(t *testing.T) {
	d := &dice{seed: 313}
	found := map[bool]int{}
	for range 6000 {
		g := d.aGrid(10)
		from, ok := d.aFreeSpot(g)
		if !ok {
			continue
		}
		walk := d.aWalk(g, from, 1+d.below(30))
		if d.below(2) == 0 { // somewhere else, in or out of the grid
			walk[d.below(len(walk))] = spot(d.below(12)-1, d.below(12)-1)
		}
		cost, valid := costOfRoute(g, walk)
		wantBool(t, startOf("ValidRoute ", walk, g), impl.ValidRoute(g, walk), valid)
		got, code := impl.RouteCost(g, walk)
		if valid {
			wantIndex(t, startOf("RouteCost ", walk, g), got, code, cost, impl.OK)
		} else {
			wantIndex(t, startOf("RouteCost ", walk, g), got, code, 0, impl.ErrInvalid)
		}
		found[valid]++
	}
	if found[true] < 1000 || found[false] < 1000 {
		t.Errorf("too few of a kind: %v", found)
	}
}
