package tests

import (
	"math"
	"slices"
	"strings"
	"testing"

	"loop.example/g01204/impl"
)

// Chapter 7 reckoned once more: costs are made less until none can be, best routes
// are looked for among all that there are, walls are looked for from each spot, and
// numbers are rounded as in numbers_test.go.

// compass has the neighbours of a spot, in their order.
func compass() []impl.Spot {
	return []impl.Spot{{1, 0}, {0, 1}, {-1, 0}, {0, -1}, {1, 1}, {-1, 1}, {-1, -1}, {1, -1}}
}

// spot makes a spot of two integers.
func spot(x, y int) impl.Spot { return impl.Spot{int16(x), int16(y)} }

// gone returns the spot that differs by so much.
func gone(s, by impl.Spot) impl.Spot { return impl.Spot{s[0] + by[0], s[1] + by[1]} }

// spotsOf returns all spots of a valid grid, in the order of Costs.
func spotsOf(g impl.Grid) []impl.Spot {
	var list []impl.Spot
	for i := range g.Costs {
		list = append(list, spot(i%int(g.Wide), i/int(g.Wide)))
	}
	return list
}

// placeOf returns the index of the cost of a spot, or -1 if there is none.
func placeOf(g impl.Grid, s impl.Spot) int { return slices.Index(spotsOf(g), s) }

// costIn returns the cost of a spot. Around a grid there are walls.
func costIn(g impl.Grid, x, y int) int64 {
	if x < 0 || y < 0 || x >= int(g.Wide) || y >= int(g.High) {
		return 255
	}
	return int64(g.Costs[y*int(g.Wide)+x])
}

func isWall(g impl.Grid, x, y int) bool { return costIn(g, x, y) == 255 }

func validGrid(g impl.Grid) bool {
	sizes := func(n int64) bool { return 0 < n && n < 25 }
	return sizes(g.Wide) && sizes(g.High) && len(g.Costs) == int(g.Wide)*int(g.High)
}

func sameGrid(g, h impl.Grid) bool {
	return g.Wide == h.Wide && g.High == h.High && string(g.Costs) == string(h.Costs)
}

// copyOf returns a grid that shares nothing with g.
func copyOf(g impl.Grid) impl.Grid {
	return impl.Grid{Wide: g.Wide, High: g.High, Costs: append([]uint8{}, g.Costs...)}
}

// costOfMove returns what a step costs, or -1 if none leads from a to b.
func costOfMove(g impl.Grid, a, b impl.Spot) int64 {
	ax, ay, bx, by := int(a[0]), int(a[1]), int(b[0]), int(b[1])
	if isWall(g, bx, by) {
		return -1
	}
	switch (ax-bx)*(ax-bx) + (ay-by)*(ay-by) {
	case 1:
		return 10 + costIn(g, bx, by)
	case 2:
		if !isWall(g, ax, by) && !isWall(g, bx, ay) {
			return 14 + costIn(g, bx, by)
		}
	}
	return -1
}

// costOfRoute returns the sum of all steps, and reports whether they are a route.
func costOfRoute(g impl.Grid, route []impl.Spot) (int64, bool) {
	if len(route) == 0 || len(route) >= 601 || isWall(g, int(route[0][0]), int(route[0][1])) {
		return 0, false
	}
	all := int64(0)
	for i := 1; i < len(route); i++ {
		cost := costOfMove(g, route[i-1], route[i])
		if cost < 0 {
			return 0, false
		}
		all += cost
	}
	return all, true
}

// costsFromAll returns the least costs of routes to a spot that is no wall, or -1.
func costsFromAll(g impl.Grid, goal impl.Spot) []int64 {
	spots := spotsOf(g)
	costs := slices.Repeat([]int64{-1}, len(spots))
	costs[placeOf(g, goal)] = 0
	for changed := true; changed; {
		changed = false
		for i, a := range spots {
			if isWall(g, int(a[0]), int(a[1])) {
				continue
			}
			for _, by := range compass() {
				b := gone(a, by)
				step := costOfMove(g, a, b)
				if step < 0 {
					continue
				}
				rest := costs[int(b[1])*int(g.Wide)+int(b[0])]
				if rest >= 0 && (costs[i] < 0 || step+rest < costs[i]) {
					costs[i], changed = step+rest, true
				}
			}
		}
	}
	return costs
}

// routeAlong returns the route from a spot to a goal to which the costs lead.
func routeAlong(g impl.Grid, costs []int64, from, goal impl.Spot) []impl.Spot {
	if from == goal {
		return []impl.Spot{goal}
	}
	for _, by := range compass() {
		to := gone(from, by)
		if step := costOfMove(g, from, to); step >= 0 && step+costs[placeOf(g, to)] == costs[placeOf(g, from)] {
			return append([]impl.Spot{from}, routeAlong(g, costs, to, goal)...)
		}
	}
	panic("no step leads on")
}

// searcher tries all routes that come to no spot twice, those whose first steps
// come first in the order of neighbours first.
type searcher struct {
	g     impl.Grid
	goal  impl.Spot
	route []impl.Spot
	best  []impl.Spot
	least int64
}

func (s *searcher) search(spent int64) {
	here := s.route[len(s.route)-1]
	if here == s.goal {
		if s.best == nil || spent < s.least {
			s.best, s.least = slices.Clone(s.route), spent
		}
		return
	}
	for _, by := range compass() {
		to := gone(here, by)
		if step := costOfMove(s.g, here, to); step >= 0 && !slices.Contains(s.route, to) {
			s.route = append(s.route, to)
			s.search(spent + step)
			s.route = s.route[:len(s.route)-1]
		}
	}
}

// searched returns the best of all routes, and its cost; none if there is none.
func searched(g impl.Grid, from, to impl.Spot) ([]impl.Spot, int64) {
	s := searcher{g: g, goal: to, route: []impl.Spot{from}}
	s.search(0)
	return s.best, s.least
}

func grownGrid(g impl.Grid, by int) impl.Grid {
	h := copyOf(g)
	for i, s := range spotsOf(g) {
		for j, t := range spotsOf(g) {
			dx, dy := int(s[0]-t[0]), int(s[1]-t[1])
			if g.Costs[j] == 255 && max(dx, -dx) <= by && max(dy, -dy) <= by {
				h.Costs[i] = 255
			}
		}
	}
	return h
}

// gridUnder returns the grid of valid marks.
func gridUnder(m impl.LandMap, wide, high int64, low [2]float32, side float32) impl.Grid {
	g := impl.Grid{Wide: wide, High: high, Costs: make([]uint8, wide*high)}
	for i, s := range spotsOf(g) {
		for _, x := range m.Marks {
			a := math.Floor(float64(quotient(difference(x.At[0], low[0]), side)))
			b := math.Floor(float64(quotient(difference(x.At[1], low[1]), side)))
			if a == float64(s[0]) && b == float64(s[1]) {
				g.Costs[i] = 255
			}
		}
	}
	return g
}

// floorOf returns a / b, rounded down.
func floorOf(a, b int) int {
	q := a / b
	if a%b != 0 && (a < 0) != (b < 0) {
		q--
	}
	return q
}

// straightLine returns the spots from a to b.
func straightLine(a, b impl.Spot) []impl.Spot {
	dx, dy := int(b[0])-int(a[0]), int(b[1])-int(a[1])
	n := int(math.Max(math.Abs(float64(dx)), math.Abs(float64(dy))))
	list := []impl.Spot{a}
	for i := 1; i <= n; i++ {
		list = append(list, spot(int(a[0])+floorOf(2*i*dx+n, 2*n), int(a[1])+floorOf(2*i*dy+n, 2*n)))
	}
	return list
}

func seenFrom(g impl.Grid, a, b impl.Spot) bool {
	list := straightLine(a, b)
	for i, s := range list {
		x, y := int(s[0]), int(s[1])
		if isWall(g, x, y) {
			return false
		}
		if i > 0 && list[i-1][0] != s[0] && list[i-1][1] != s[1] && (isWall(g, int(list[i-1][0]), y) || isWall(g, x, int(list[i-1][1]))) {
			return false
		}
	}
	return true
}

func shortened(g impl.Grid, route []impl.Spot) []impl.Spot {
	short := []impl.Spot{route[0]}
	for i := 0; i != len(route)-1; {
		last := i
		for j := range route {
			if j > i && seenFrom(g, route[i], route[j]) {
				last = j
			}
		}
		i = last
		short = append(short, route[i])
	}
	return short
}

// point is a point of a way.
type point = [2]float32

func squareOf(p, q point) float32 {
	dx, dy := difference(q[0], p[0]), difference(q[1], p[1])
	return sum(product(dx, dx), product(dy, dy))
}

func lengthOf(points []point) float32 {
	var all float32
	for i := range len(points) - 1 {
		all = sum(all, root(squareOf(points[i], points[i+1])))
	}
	return all
}

// aheadOn returns the point ahead, from the nearest one on.
func aheadOn(points []point, at point, ahead float32) point {
	start := slices.IndexFunc(points, func(p point) bool {
		return !slices.ContainsFunc(points, func(q point) bool { return squareOf(q, at) < squareOf(p, at) })
	})
	for ; start+1 < len(points); start++ {
		p, q := points[start], points[start+1]
		d := root(squareOf(p, q))
		switch {
		case d == 0:
		case ahead <= d:
			share := quotient(ahead, d)
			return point{sum(p[0], product(difference(q[0], p[0]), share)), sum(p[1], product(difference(q[1], p[1]), share))}
		default:
			ahead = difference(ahead, d)
		}
	}
	return points[len(points)-1]
}

func followed(points []point, p impl.Pose, ahead, step float32) impl.Pose {
	q := aheadOn(points, point{p[0], p[1]}, ahead)
	dx, dy := difference(q[0], p[0]), difference(q[1], p[1])
	if dx != 0 || dy != 0 {
		turn := wrapOf(difference(angleOf(dy, dx), p[2]))
		if turn > 0.5 {
			turn = 0.5
		}
		if turn < -0.5 {
			turn = -0.5
		}
		p[2] = wrapOf(sum(p[2], turn))
	}
	return composed(p, impl.Pose{step, 0, 0})
}

func validWay(points []point) bool {
	if len(points) == 0 || len(points) >= 601 {
		return false
	}
	return !slices.ContainsFunc(points, func(p point) bool { return !finiteNumbers(p[:]...) })
}

// drawn returns the text of a grid.
func drawn(g impl.Grid) string {
	marks := map[uint8]string{0: ".", 10: "1", 20: "2", 30: "3", 40: "4", 50: "5", 60: "6", 70: "7", 80: "8", 90: "9", 255: "#"}
	var out strings.Builder
	for i, cost := range g.Costs {
		mark, ok := marks[cost]
		if !ok {
			mark = "?"
		}
		out.WriteString(mark)
		if (i+1)%int(g.Wide) == 0 {
			out.WriteString("\n")
		}
	}
	return out.String()
}

// grid makes a grid of rows, which are written as in its text.
func grid(rows ...string) impl.Grid {
	g := impl.Grid{Wide: int64(len(rows[0])), High: int64(len(rows))}
	for _, row := range rows {
		for _, mark := range row {
			switch mark {
			case '.':
				g.Costs = append(g.Costs, 0)
			case '#':
				g.Costs = append(g.Costs, 255)
			default:
				g.Costs = append(g.Costs, uint8(mark-'0')*10)
			}
		}
	}
	return g
}

// costs returns what makes costs of one kind.
func (d *dice) costs() func() uint8 {
	some := []uint8{0, 0, 0, 10, 20, 90, 1, 254}
	walls := d.below(4)
	kind := d.below(4)
	return func() uint8 {
		switch {
		case d.below(8) < walls:
			return 255
		case kind == 0:
			return some[d.below(len(some))]
		case kind == 1:
			return uint8(d.below(256))
		case kind == 2:
			return uint8(10 * d.below(3))
		}
		return 0
	}
}

// aGrid returns a valid grid which is at most so wide and high.
func (d *dice) aGrid(most int) impl.Grid {
	of := d.costs()
	g := impl.Grid{Wide: int64(1 + d.below(most)), High: int64(1 + d.below(most))}
	for range g.Wide * g.High {
		g.Costs = append(g.Costs, of())
	}
	return g
}

// aSpot returns a spot of a grid.
func (d *dice) aSpot(g impl.Grid) impl.Spot {
	return spot(d.below(int(g.Wide)), d.below(int(g.High)))
}

// aFreeSpot returns a spot that is no wall, and reports whether it found one.
func (d *dice) aFreeSpot(g impl.Grid) (impl.Spot, bool) {
	for range 20 {
		if s := d.aSpot(g); !isWall(g, int(s[0]), int(s[1])) {
			return s, true
		}
	}
	return impl.Spot{}, false
}

// aWalk returns a route of at most so many spots, which goes on in its direction
// for some steps where it can.
func (d *dice) aWalk(g impl.Grid, from impl.Spot, most int) []impl.Spot {
	route := []impl.Spot{from}
	by := compass()[d.below(8)]
	for tries := 0; len(route) < most && tries < 40; tries++ {
		here := route[len(route)-1]
		if d.below(4) > 0 && costOfMove(g, here, gone(here, by)) >= 0 {
			route, tries = append(route, gone(here, by)), 0
		} else {
			by = compass()[d.below(8)]
		}
	}
	return route
}

// aWay returns a way of at most so many points, some of them several times. One in
// eight has differences that are not finite.
func (d *dice) aWay(most int) []point {
	of := d.places()
	if d.below(8) == 0 {
		list := []float32{greatest, -greatest, 1e20, 0, -1e38}
		of = func() float32 { return list[d.below(len(list))] }
	}
	points := []point{{of(), of()}}
	for range d.below(most) {
		p := point{of(), of()}
		switch d.below(8) {
		case 0:
			p = points[d.below(len(points))]
		case 1:
			p = points[len(points)-1]
		}
		points = append(points, p)
	}
	return points
}

// badGrids returns grids that are not valid, each one for a reason of its own.
func badGrids() []impl.Grid {
	const far = math.MaxInt64
	of := func(wide, high int64, count int) impl.Grid {
		return impl.Grid{Wide: wide, High: high, Costs: make([]uint8, count)}
	}
	return []impl.Grid{
		{}, of(0, 0, 1), of(0, 1, 0), of(1, 0, 0), of(0, 3, 3), of(3, 0, 3), of(0, far, 0), of(far, 0, 0), of(far, 1, 0), of(1, far, 0),
		of(25, 1, 25), of(1, 25, 25), of(25, 24, 600), of(24, 25, 600), of(25, 25, 625), of(48, 12, 576), of(12, 48, 576),
		of(-1, -1, 1), of(-2, -3, 6), of(-1, 3, 3), of(3, -1, 3), of(-3, 2, 0), of(math.MinInt64, 2, 0), of(2, math.MinInt64, 0), of(math.MinInt64, math.MinInt64, 0),
		of(1<<32, 1<<32, 0), of(1<<32+1, 1, 1), of(1, 1<<32+1, 1), of(3, 1<<32, 0), of(1<<16+2, 2, 4),
		of(1, 1, 0), of(1, 1, 2), of(3, 3, 8), of(3, 3, 10), of(3, 3, 0), of(24, 24, 575), of(24, 24, 577), of(2, 3, 5), of(2, 3, 7), of(2, 2, 1000000),
	}
}

// noSpots returns spots that a valid grid does not have. Some of them have the
// index of another one.
func noSpots(g impl.Grid) []impl.Spot {
	wide, high := int(g.Wide), int(g.High)
	return []impl.Spot{
		spot(-1, 0), spot(0, -1), spot(-1, -1), spot(wide, 0), spot(0, high), spot(wide, high-1), spot(wide-1, high), spot(wide, high),
		spot(-1, high-1), spot(wide-1, -1), spot(-1, 1), spot(wide, -1), spot(-wide, 1), spot(24, 0), spot(0, 24), spot(24, 24), spot(-1, high),
		spot(32767, 0), spot(0, 32767), spot(-32768, 0), spot(0, -32768), spot(32767, 32767), spot(-32768, -32768), spot(256, 0), spot(0, 256), spot(wide*high, 0),
	}
}

// badWays returns points that are no way, each list for a reason of its own.
func badWays() [][]point {
	list := [][]point{nil, {}, make([]point, 601), make([]point, 100000)}
	for _, a := range []float32{infinite, -infinite, nan, otherNaN} {
		for i := range 3 {
			for k := range 2 {
				points := []point{{0, 0}, {1, 0}, {1, 1}}
				points[i][k] = a
				list = append(list, points)
			}
		}
		list = append(list, []point{{a, 0}}, []point{{0, a}})
		long := make([]point, 600)
		long[599][1] = a
		list = append(list, long)
	}
	return list
}

// notFinite has the numbers that are not finite.
func notFinite() []float32 { return []float32{infinite, -infinite, nan, otherNaN} }

func wantGrid(t *testing.T, what string, got impl.Grid, code int64, want impl.Grid, wanted int64) {
	t.Helper()
	if !sameGrid(got, want) {
		t.Errorf("%s: got %s, want %s", what, startOf(got), startOf(want))
	}
	wantCode(t, what, code, wanted)
}

func wantSpots(t *testing.T, what string, got []impl.Spot, code int64, want []impl.Spot, wanted int64) {
	t.Helper()
	if !slices.Equal(got, want) {
		t.Errorf("%s: got %v, want %v", what, got, want)
	}
	wantCode(t, what, code, wanted)
}

func wantRoute(t *testing.T, what string, g impl.Grid, from, to impl.Spot, cost int64, want ...impl.Spot) {
	t.Helper()
	got, paid, code := impl.BestRoute(g, from, to)
	wantSpots(t, what, got, code, want, impl.OK)
	wantIndex(t, what+", cost", paid, code, cost, impl.OK)
}

func wantNoRoute(t *testing.T, what string, g impl.Grid, from, to impl.Spot, want int64) {
	t.Helper()
	got, paid, code := impl.BestRoute(g, from, to)
	wantSpots(t, what, got, code, nil, want)
	wantIndex(t, what+", cost", paid, code, 0, want)
}

func wantIntegers(t *testing.T, what string, got []int64, code int64, want []int64, wanted int64) {
	t.Helper()
	if !slices.Equal(got, want) {
		t.Errorf("%s: got %v, want %v", what, got, want)
	}
	wantCode(t, what, code, wanted)
}

func samePoint(p, q point) bool { return same(p[0], q[0]) && same(p[1], q[1]) }

func wantPoint(t *testing.T, what string, got point, code int64, want point, wanted int64) {
	t.Helper()
	if !samePoint(got, want) {
		t.Errorf("%s: got %v, want %v", what, got, want)
	}
	wantCode(t, what, code, wanted)
}

func wantPoints(t *testing.T, what string, got []point, code int64, want []point, wanted int64) {
	t.Helper()
	if !slices.EqualFunc(got, want, samePoint) {
		t.Errorf("%s: got %s, want %s", what, startOf(got), startOf(want))
	}
	wantCode(t, what, code, wanted)
}
