package tests

import (
	"fmt"
	"math"
	"slices"
	"strings"
	"testing"

	"loop.example/g01204/impl"
)

// routeArguments has something for every function of chapter 7.
type routeArguments struct {
	g, h        impl.Grid
	m           impl.LandMap
	a, b        impl.Spot
	route       []impl.Spot
	points      []point
	at, low     point
	p           impl.Pose
	side, ahead float32
	wide, high  int64
	by          int64
	cost        uint8
	text        string
}

// answers calls every function and writes all results, numbers by their bits. What
// is returned is overwritten then, as far as it has room.
func (k *routeArguments) answers() string {
	var out strings.Builder
	add := func(list ...any) { fmt.Fprintln(&out, list...) }
	grid := func(g impl.Grid, code int64) {
		add(g.Wide, g.High, len(g.Costs), string(g.Costs), code)
		for i := range g.Costs[:cap(g.Costs)] {
			g.Costs[:cap(g.Costs)][i] = 77
		}
	}
	spots := func(list []impl.Spot, code int64) {
		add(len(list), list, code)
		for i := range list[:cap(list)] {
			list[:cap(list)][i] = spot(77, 78)
		}
	}
	points := func(list []point, code int64) {
		add(len(list), code)
		for i, p := range list[:cap(list)] {
			if i < len(list) {
				add(bitsOf(p[:]...))
			}
			list[:cap(list)][i] = point{77, 78}
		}
	}
	add(impl.ValidGrid(k.g), impl.SameGrid(k.g, k.h), impl.ValidRoute(k.g, k.route))
	grid(impl.EmptyGrid(k.wide, k.high))
	add(impl.CostAt(k.g, k.a))
	grid(impl.WithCost(k.g, k.a, k.cost))
	grid(impl.GrowWalls(k.g, k.by))
	grid(impl.GrowWalls(k.g, 0))
	grid(impl.GridOfMarks(k.m, k.wide, k.high, k.low, k.side))
	costs, code := impl.CostsTo(k.g, k.a)
	add(len(costs), costs, code)
	for i := range costs[:cap(costs)] {
		costs[:cap(costs)][i] = 77
	}
	best, cost, code := impl.BestRoute(k.g, k.a, k.b)
	add(cost)
	spots(best, code)
	add(impl.RouteCost(k.g, k.route))
	spots(impl.SpotsBetween(k.a, k.b))
	add(impl.SeesSpot(k.g, k.a, k.b))
	spots(impl.ShortenRoute(k.g, k.route))
	points(impl.PointsOf(k.route, k.low, k.side))
	length, code := impl.LengthOfWay(k.points)
	add(bitsOf(length), code)
	ahead, code := impl.AheadOnWay(k.points, k.at, k.ahead)
	add(bitsOf(ahead[:]...), code)
	p, code := impl.FollowWay(k.points, k.p, k.ahead, k.side)
	add(bitsOf(p[:]...), code)
	add(impl.GridText(k.g))
	grid(impl.ReadGrid(k.text))
	return out.String()
}

// withRoom returns a copy whose slices have room behind them.
func (k *routeArguments) withRoom() routeArguments {
	j := *k
	j.g.Costs, j.h.Costs = roomy(k.g.Costs, 66), roomy(k.h.Costs, 67)
	j.m.Marks = roomy(k.m.Marks, plainMark(9, 9, 9))
	j.route, j.points = roomy(k.route, spot(55, 56)), roomy(k.points, point{57, 58})
	return j
}

// all writes the slices, with the room behind them.
func (k *routeArguments) all() string {
	return fmt.Sprint(k.g.Costs[:len(k.g.Costs)+3], k.h.Costs[:len(k.h.Costs)+3], k.m.Marks[:len(k.m.Marks)+3], k.route[:len(k.route)+3], k.points[:len(k.points)+3])
}

// anyRouting returns arguments of which some are not valid.
func (d *dice) anyRouting() routeArguments {
	g := d.aGrid(10)
	k := routeArguments{g: g, h: copyOf(g), m: d.aMap(1, 6), a: d.aSpot(g), b: d.aSpot(g), points: d.aWay(6), p: d.aPose(d.places()), cost: uint8(d.below(256))}
	k.wide, k.high, k.by = int64(1+d.below(24)), int64(1+d.below(24)), int64(d.below(4))
	k.at, k.low, k.side, k.ahead = k.points[d.below(len(k.points))], point{d.whole(3), d.unit()}, d.aSide(), float32(d.below(5))
	k.route, k.text = d.aWalk(g, k.a, 1+d.below(20)), drawn(g)
	switch d.below(14) {
	case 0:
		list := badGrids()
		k.g = list[d.below(len(list)-1)]
	case 1:
		list := badGrids()
		k.h = list[d.below(len(list)-1)]
	case 2:
		list := badMaps()
		k.m = list[d.below(len(list))]
	case 3:
		list := noSpots(g)
		k.a, k.b = list[d.below(len(list))], list[d.below(len(list))]
	case 4:
		list := noSpots(g)
		k.route = append(k.route, list[d.below(len(list))])
	case 5:
		k.points[d.below(len(k.points))][d.below(2)] = d.any()
	case 6:
		k.at, k.low, k.p, k.side, k.ahead = point{d.any(), d.any()}, point{d.any(), d.any()}, impl.Pose(vecFrom(d.any)), d.any(), d.any()
	case 7:
		k.wide, k.high, k.by = noIndices(25)[d.below(7)], noIndices(25)[d.below(7)], noIndices(25)[d.below(7)]
	case 8:
		k.route, k.text = slices.Repeat(k.route, 9), k.text[:d.below(len(k.text))]
	}
	return k
}

func TestEqualRoutesHaveEqualResults(t *testing.T) {
	d := &dice{seed: 350}
	list := make([]routeArguments, 2000)
	first := make([]string, len(list))
	for i := range list {
		list[i] = d.anyRouting()
		first[i] = list[i].answers()
	}
	for i := len(list) - 1; i >= 0; i-- { // in another order, so that a state that is kept would be seen
		k := list[i].withRoom()
		before := k.all()
		if got := k.answers(); got != first[i] {
			t.Fatalf("other results for equal arguments:\n%s\n%s", first[i], got)
		}
		if after := k.all(); after != before {
			t.Fatalf("an argument was modified, or what lies behind it:\n%s\n%s", before, after)
		}
	}
}

// TestEverySpecialNumberOfWays puts each special number into each place: nothing may panic.
func TestEverySpecialNumberOfWays(t *testing.T) {
	d := &dice{seed: 351}
	for _, a := range specials() {
		for _, b := range specials() {
			k := d.anyRouting()
			k.side, k.ahead = a, b
			k.answers()
			k.low, k.at = point{a, b}, point{b, a}
			k.answers()
			k.points = []point{{0, 0}, {a, 1}, {b, a}}
			k.answers()
			k.p = impl.Pose{a, b, 1}
			k.answers()
			k.p = impl.Pose{0, a, b}
			k.answers()
		}
	}
}

// TestEverySpotOfAll puts integers that a careless program takes for coordinates into each place.
func TestEverySpotOfAll(t *testing.T) {
	d := &dice{seed: 352}
	list := []int{0, 1, 2, 9, 23, 24, -1, 255, 256, 32767, -32768}
	for _, x := range list {
		for _, y := range list {
			k := d.anyRouting()
			k.a = spot(x, y)
			k.answers()
			k.b = spot(y, x)
			k.answers()
			k.route = route(k.a, k.b)
			k.answers()
			k.route = route(spot(0, 0), k.a)
			k.answers()
			k.wide, k.high, k.by = int64(x), int64(y), int64(x)
			k.answers()
			k.g.Wide, k.g.High = int64(x), int64(y)
			k.answers()
			k.g.Wide, k.g.High = int64(x)<<32, math.MaxInt64-int64(y)
			k.answers()
		}
	}
}

// TestLongRoutesAndGrids has lists of many elements.
func TestLongRoutesAndGrids(t *testing.T) {
	k := (&dice{seed: 353}).anyRouting()
	k.g = impl.Grid{Wide: 1000, High: 300, Costs: make([]uint8, 300000)}
	k.h, k.route, k.points, k.text = copyOf(k.g), make([]impl.Spot, 100000), make([]point, 100000), strings.Repeat(".", 300000)
	first := k.answers()
	wantBool(t, "equal results", k.answers() == first, true)
	wantBool(t, "SameGrid of very great grids", impl.SameGrid(k.g, k.h), true)
	k.h.Costs[299999] = 1
	wantBool(t, "SameGrid of very great grids", impl.SameGrid(k.g, k.h), false)
	_, code := impl.CostAt(k.g, spot(0, 0))
	wantCode(t, "CostAt of very great grids", code, impl.ErrInvalid)
	_, code = impl.RouteCost(grid(".."), k.route)
	wantCode(t, "RouteCost of a very long route", code, impl.ErrInvalid)
}

// TestMarksOfGridsStay has a map whose marks stay as they are where a grid is made of it.
func TestMarksOfGridsStay(t *testing.T) {
	m := marksAt(point{0.5, 0.5}, point{1.5, 0.5})
	first, _ := impl.GridOfMarks(m, 3, 3, point{}, 1)
	first.Costs[0] = 9
	second, code := impl.GridOfMarks(m, 3, 3, point{}, 1)
	wantGrid(t, "GridOfMarks", second, code, grid("##.", "...", "..."), impl.OK)
	wantBool(t, "GridOfMarks leaves the map as it is", sameMap(m, marksAt(point{0.5, 0.5}, point{1.5, 0.5})), true)
}
