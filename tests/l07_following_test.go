package tests

import (
	"fmt"
	"math"
	"slices"
	"testing"

	"loop.example/g01204/impl"
)

func TestCentresOfSpots(t *testing.T) {
	check := func(what string, list []impl.Spot, low point, side float32, want ...point) {
		t.Helper()
		got, code := impl.PointsOf(list, low, side)
		wantPoints(t, "PointsOf, "+what, got, code, want, impl.OK)
	}
	check("none", nil, point{1, 2}, 3)
	check("one", route(spot(0, 0)), point{}, 1, point{0.5, 0.5})
	check("a route", route(spot(0, 0), spot(2, 0), spot(2, 2)), point{0, 0}, 2, point{1, 1}, point{5, 1}, point{5, 5})
	check("low", route(spot(3, 1)), point{10, -20}, 4, point{24, -14})
	check("not in any grid, and twice", route(spot(-1, 100), spot(-1, 100)), point{}, 2, point{-1, 201}, point{-1, 201})
	check("the greatest ones", route(spot(32767, -32768)), point{}, 1, point{32767.5, -32767.5})
	check("the side 0", route(spot(3, -4)), point{5, minusZero}, 0, point{5, minusZero})
	check("the side 0", route(spot(3, 4)), point{minusZero, minusZero}, 0, point{0, 0})
	check("a negative side", route(spot(3, 4)), point{1, 1}, -2, point{-6, -8})
	check("infinite", route(spot(1, 0), spot(-3, 0)), point{0, -greatest}, greatest, point{infinite, difference(product(0.5, greatest), greatest)}, point{-infinite, product(-0.5, greatest)})
	// The sum with 0.5 comes first: 1/3 as a narrow number times 16.5 is rounded just once.
	third := float32(1) / 3
	check("the sum first", route(spot(16, 5)), point{}, third, point{product(third, 16.5), product(third, 5.5)})
	check("tiny", route(spot(0, 1)), point{1, 0}, tiniest, point{1, 2 * tiniest}) // half of the least number is 0, and 1.5 times it is twice it
	long := make([]impl.Spot, 600)
	check("600 spots", long, point{}, 2, slices.Repeat([]point{{1, 1}}, 600)...)
}

func TestCentresOfSpotsAgain(t *testing.T) {
	d := &dice{seed: 330}
	for range 4000 {
		list := make([]impl.Spot, d.below(6))
		low, side := point{d.finite(), d.unit()}, d.often(d.finite)()
		want := make([]point, len(list))
		for i := range list {
			x, y := d.below(65536)-32768, d.below(24)
			list[i] = spot(x, y)
			want[i] = point{sum(low[0], product(side, sum(float32(x), 0.5))), sum(low[1], product(side, sum(float32(y), 0.5)))}
		}
		got, code := impl.PointsOf(list, low, side)
		wantPoints(t, fmt.Sprint("PointsOf ", list, low, side), got, code, want, impl.OK)
	}
}

func TestNoCentres(t *testing.T) {
	none := func(what string, list []impl.Spot, low point, side float32) {
		t.Helper()
		got, code := impl.PointsOf(list, low, side)
		wantPoints(t, "PointsOf, "+what, got, code, nil, impl.ErrRange)
	}
	for _, list := range [][]impl.Spot{nil, route(spot(0, 0)), make([]impl.Spot, 600)} {
		for _, a := range notFinite() {
			none("low", list, point{a, 0}, 1)
			none("low", list, point{0, a}, 1)
			none("side", list, point{}, a)
		}
	}
	none("601 spots", make([]impl.Spot, 601), point{}, 1)
	none("many spots", make([]impl.Spot, 1000000), point{}, 1)
}

// TestNoWays hands what is no way to all functions that take one.
func TestNoWays(t *testing.T) {
	each(badWays(), func(what string, points []point) {
		length, code := impl.LengthOfWay(points)
		wantNumberCode(t, "LengthOfWay, "+what, length, code, 0, impl.ErrRange)
		for _, ahead := range []float32{0, 1, -1, nan} {
			at, code := impl.AheadOnWay(points, point{1, 1}, ahead)
			wantPoint(t, "AheadOnWay, "+what, at, code, point{}, impl.ErrRange)
			p, code := impl.FollowWay(points, impl.Pose{1, 1, 1}, ahead, 1)
			wantPose(t, "FollowWay, "+what, p, impl.Pose{})
			wantCode(t, "FollowWay, "+what, code, impl.ErrRange)
		}
	})
}

func TestLengthsOfWays(t *testing.T) {
	check := func(what string, want float32, points ...point) {
		t.Helper()
		got, code := impl.LengthOfWay(points)
		wantNumberCode(t, "LengthOfWay, "+what, got, code, want, impl.OK)
	}
	check("one point", 0, point{7, 7})
	check("a point twice", 0, point{7, 7}, point{7, 7})
	check("a piece", 5, point{1, 1}, point{4, 5})
	check("a piece back", 5, point{4, 5}, point{1, 1})
	check("pieces", 18, point{0, 0}, point{3, 4}, point{3, -8}, point{4, -8})
	check("there and back", 8, point{1, 0}, point{5, 0}, point{1, 0})
	// 2^24 and 1 make 2^24, but 1 and 1 and 2^24 make more.
	check("the greatest one first", 1<<24, point{0, 0}, point{1 << 24, 0}, point{1 << 24, 1}, point{1 << 24, 0})
	check("the greatest one last", 1<<24+2, point{0, 0}, point{0, 1}, point{0, 0}, point{1 << 24, 0})
	check("infinite", infinite, point{0, 0}, point{greatest, 0}, point{0, 0})
	check("infinite differences", infinite, point{-greatest, -greatest}, point{greatest, greatest})
	check("infinite squares", infinite, point{0, 0}, point{1e20, 0})
	check("squares that are 0", 0, point{0, 0}, point{1e-30, 1e-30})
	check("600 points", 599, alternate(600)...)
}

// alternate returns so many points, 0, 0 and 1, 0 in turn.
func alternate(count int) []point {
	var list []point
	for k := range count {
		list = append(list, point{float32(k % 2), 0})
	}
	return list
}

func TestLengthsAgain(t *testing.T) {
	d := &dice{seed: 331}
	for range 4000 {
		points := d.aWay(12)
		got, code := impl.LengthOfWay(points)
		wantNumberCode(t, startOf("LengthOfWay ", points), got, code, lengthOf(points), impl.OK)
	}
}

func wantAhead(t *testing.T, what string, points []point, at point, ahead float32, want point) {
	t.Helper()
	got, code := impl.AheadOnWay(points, at, ahead)
	wantPoint(t, fmt.Sprint("AheadOnWay, ", what, ", at ", at, ", ", ahead), got, code, want, impl.OK)
}

func TestPointsAhead(t *testing.T) {
	way := []point{{0, 0}, {4, 0}, {4, 3}, {0, 3}}
	wantAhead(t, "nothing ahead", way, point{0, 0}, 0, point{0, 0})
	wantAhead(t, "-0 ahead", way, point{0, 0}, minusZero, point{0, 0})
	wantAhead(t, "in the first piece", way, point{0, 0}, 1, point{1, 0})
	wantAhead(t, "at its end", way, point{0, 0}, 4, point{4, 0})
	wantAhead(t, "in the second piece", way, point{0, 0}, 5.5, point{4, 1.5})
	wantAhead(t, "in the third piece", way, point{0, 0}, 9, point{2, 3})
	wantAhead(t, "at the end", way, point{0, 0}, 11, point{0, 3})
	wantAhead(t, "behind the end", way, point{0, 0}, 11.5, point{0, 3})
	wantAhead(t, "far behind the end", way, point{0, 0}, greatest, point{0, 3})
	wantAhead(t, "from the nearest point on, not from at", way, point{5, -1}, 1, point{4, 1})
	wantAhead(t, "a piece that is nearer does not count", []point{{0, 0}, {10, 0}, {10, 10}}, point{4, 0}, 1, point{1, 0})
	wantAhead(t, "a piece that is nearer does not count", []point{{0, 0}, {10, 0}, {10, 10}}, point{6, 0}, 1, point{10, 1})
	wantAhead(t, "the last point", way, point{-1, 4}, 0, point{0, 3})
	wantAhead(t, "behind the last point", way, point{-1, 4}, 2, point{0, 3})
	wantAhead(t, "the first one of several", way, point{2, 1.5}, 1, point{1, 0})
	wantAhead(t, "the first one of several", way, point{4, 1.5}, 1, point{4, 1})
	wantAhead(t, "a point twice", []point{{0, 0}, {2, 0}, {0, 0}, {0, 2}}, point{0, 0}, 1, point{1, 0})
	wantAhead(t, "one point", []point{{5, 6}}, point{1, 1}, 3, point{5, 6})
	wantAhead(t, "one point", []point{{minusZero, 6}}, point{1, 1}, 0, point{minusZero, 6})
	wantAhead(t, "pieces of no length", []point{{1, 1}, {1, 1}, {1, 1}, {1, 3}}, point{0, 0}, 0.5, point{1, 1.5})
	wantAhead(t, "pieces of no length, nothing ahead", []point{{1, 1}, {1, 1}, {1, 3}}, point{0, 0}, 0, point{1, 1})
	wantAhead(t, "pieces of no length between", []point{{0, 0}, {1, 0}, {1, 0}, {1, 0}, {3, 0}}, point{0, 0}, 2, point{2, 0})
	wantAhead(t, "pieces of no length, at the end of one before", []point{{0, 0}, {1, 0}, {1, 0}, {3, 0}}, point{0, 0}, 1, point{1, 0})
	wantAhead(t, "pieces of no length at the end", []point{{0, 0}, {1, 0}, {1, 0}}, point{0, 0}, 2, point{1, 0})
	wantAhead(t, "only pieces of no length", []point{{2, 3}, {2, 3}, {2, 3}}, point{0, 0}, 0, point{2, 3})
	wantAhead(t, "a length that is rounded to 0", []point{{0, 0}, {1e-30, 0}, {1, 0}}, point{0, 0}, 0.5, point{0.5, 0})
	wantAhead(t, "a length that is rounded to 0, nothing ahead", []point{{0, 0}, {1e-30, 0}, {1, 0}}, point{0, 0}, 0, point{1e-30, 0})
	wantAhead(t, "a length that is rounded to 0, at the end", []point{{0, 0}, {1e-30, 0}}, point{0, 0}, 0, point{1e-30, 0})
	// What begins a piece gets a product added, which may be 0.
	wantAhead(t, "-0 and 0", []point{{minusZero, minusZero}, {4, minusZero}}, point{0, 0}, 0, point{0, 0})
	wantAhead(t, "-0 and -0", []point{{minusZero, minusZero}, {-4, minusZero}}, point{0, 0}, 0, point{minusZero, 0})
	wantAhead(t, "all of a piece, rounded", []point{{1 << 24, 0}, {1, 0}, {1, 1}}, point{1 << 24, 0}, 1<<24-1, point{1, 0})
}

// TestPointsFarAhead has numbers whose squares or differences are not finite.
func TestPointsFarAhead(t *testing.T) {
	wantAhead(t, "all infinitely far away", []point{{1e30, 0}, {2e30, 0}, {1e25, 0}}, point{0, 0}, 0, point{1e30, 0})
	wantAhead(t, "one is not", []point{{1e30, 0}, {2e30, 0}, {1e15, 0}, {1e15, 1e10}}, point{0, 0}, 5e9, point{1e15, 5e9})
	wantAhead(t, "an infinite length", []point{{0, 1}, {1e30, 2}}, point{0, 0}, greatest, point{0, 1})
	wantAhead(t, "an infinite difference", []point{{-greatest, 1}, {greatest, 1}}, point{-greatest, 0}, 5, point{nan, 1})
	wantAhead(t, "infinite differences", []point{{-greatest, greatest}, {greatest, -greatest}}, point{0, 0}, 0, point{nan, nan})
	wantAhead(t, "no piece behind an infinite one", []point{{0, 0}, {1e30, 0}, {1e30, 1}}, point{0, 0}, greatest, point{0, 0})
	long := alternate(600)
	long[599] = point{5, 0}
	wantAhead(t, "600 points", long, point{0, 0}, 598, point{0, 0})
	wantAhead(t, "600 points", long, point{0, 0}, 600, point{2, 0})
	wantAhead(t, "the last one of 600", long, point{4, 0}, 600, point{5, 0})
}

func TestNothingAhead(t *testing.T) {
	for _, way := range [][]point{{{0, 0}}, {{0, 0}, {4, 0}}, alternate(600)} {
		none := func(at point, ahead float32) {
			t.Helper()
			got, code := impl.AheadOnWay(way, at, ahead)
			wantPoint(t, fmt.Sprint("AheadOnWay ", at, ahead), got, code, point{}, impl.ErrRange)
			p, code := impl.FollowWay(way, impl.Pose{at[0], at[1], 0}, ahead, 1)
			wantPose(t, fmt.Sprint("FollowWay ", at, ahead), p, impl.Pose{})
			wantCode(t, fmt.Sprint("FollowWay ", at, ahead), code, impl.ErrRange)
		}
		for _, a := range notFinite() {
			none(point{a, 0}, 1)
			none(point{0, a}, 1)
			none(point{}, a)
			for _, step := range []float32{0, 1} {
				p, code := impl.FollowWay(way, impl.Pose{0, 0, a}, 1, step)
				wantPose(t, "FollowWay, heading", p, impl.Pose{})
				wantCode(t, "FollowWay, heading", code, impl.ErrRange)
			}
			p, code := impl.FollowWay(way, impl.Pose{1, 2, 3}, 1, a)
			wantPose(t, "FollowWay, step", p, impl.Pose{})
			wantCode(t, "FollowWay, step", code, impl.ErrRange)
		}
		for _, ahead := range []float32{-1, -tiniest, -greatest} {
			none(point{}, ahead)
		}
	}
}

func TestPointsAheadAgain(t *testing.T) {
	d := &dice{seed: 332}
	kinds := map[string]int{}
	for range 12000 {
		points := d.aWay(10)
		at := point{d.finite(), d.finite()}
		switch d.below(3) {
		case 0:
			at = points[d.below(len(points))]
		case 1:
			at = d.aWay(1)[0]
		}
		ahead := held(product(lengthOf(points), float32(math.Abs(float64(d.unit())))))
		switch d.below(6) {
		case 0:
			ahead = float32(math.Abs(float64(d.finite())))
		case 1:
			ahead = float32(d.below(8))
		}
		want := aheadOn(points, at, ahead)
		wantAhead(t, startOf(points), points, at, ahead, want)
		switch {
		case !finiteNumbers(want[:]...):
			kinds["not finite"]++
		case want == points[len(points)-1]:
			kinds["the last point"]++
		case slices.Contains(points, want):
			kinds["a point"]++
		default:
			kinds["between"]++
		}
	}
	if kinds["not finite"] < 100 || kinds["the last point"] < 1000 || kinds["a point"] < 1000 || kinds["between"] < 1000 {
		t.Errorf("too few of a kind: %v", kinds)
	}
}

func wantFollowed(t *testing.T, what string, points []point, p impl.Pose, ahead, step float32, want impl.Pose) {
	t.Helper()
	got, code := impl.FollowWay(points, p, ahead, step)
	wantPose(t, fmt.Sprint("FollowWay, ", what, ", ", p, ahead, step), got, want)
	wantCode(t, fmt.Sprint("FollowWay, ", what, ", ", p, ahead, step), code, impl.OK)
}

// turnedTo returns the pose behind a step of 1 from 0, 0 with a heading.
func turnedTo(heading float32) impl.Pose {
	return impl.ComposePoses(impl.Pose{0, 0, heading}, on(1))
}

func TestWaysAreFollowed(t *testing.T) {
	ahead := []point{{0, 0}, {4, 0}}
	wantFollowed(t, "straight ahead", ahead, on(0), 1, 0.5, on(0.5))
	wantFollowed(t, "nothing but a turn", ahead, impl.Pose{0, 0, 0.25}, 1, 0, on(0))
	wantFollowed(t, "a step back", ahead, on(0), 1, -0.5, on(-0.5))
	wantFollowed(t, "back onto the way", ahead, impl.Pose{0, 0, -0.25}, 1, 1, on(1))
	wantFollowed(t, "from beside the way", []point{{0, 1}, {4, 1}}, on(0), 2, 1, turnedTo(impl.AngleOf(1, 2)))
	wantFollowed(t, "too far to the left", []point{{0, 4}}, on(0), 1, 1, turnedTo(0.5))
	wantFollowed(t, "too far to the right", []point{{0, -4}}, on(0), 1, 1, turnedTo(-0.5))
	wantFollowed(t, "right behind, which is a little more than half a turn", []point{{-4, 0}}, on(0), 1, 1, turnedTo(-0.5))
	wantFollowed(t, "just what a turn may be", []point{{0, 4}}, impl.Pose{0, 0, impl.AngleOf(4, 0) - 0.5}, 1, 1, turnedTo(impl.AngleOf(4, 0)))
	wantFollowed(t, "a little less", []point{{4, 2}}, on(0), 1, 1, turnedTo(impl.AngleOf(2, 4)))
	// Over the end of the angles: 3 is nearer to -3 by the left.
	wantFollowed(t, "the shorter turn", []point{{-4, -0.5}}, impl.Pose{0, 0, 3}, 1, 1, turnedTo(impl.WrapAngle(3+impl.WrapAngle(impl.AngleOf(-0.5, -4)-3))))
	wantFollowed(t, "the shorter turn, too far", []point{{-4, -4}}, impl.Pose{0, 0, 3}, 1, 1, turnedTo(impl.WrapAngle(3.5)))
	wantFollowed(t, "many whole turns", []point{{4, 0}}, impl.Pose{0, 0, 100}, 1, 1, turnedTo(impl.WrapAngle(100+min(max(impl.WrapAngle(-100), -0.5), 0.5))))
	// Where the way is, there is no angle to it.
	wantFollowed(t, "there already", []point{{0, 0}}, impl.Pose{0, 0, 2}, 1, 1, turnedTo(2))
	wantFollowed(t, "there already, -0", []point{{minusZero, minusZero}}, impl.Pose{0, 0, -2}, 1, 1, turnedTo(-2))
	wantFollowed(t, "there already, at the end", []point{{0, 0}, {0, 0}}, impl.Pose{0, 0, -0.75}, 5, 1, turnedTo(-0.75))
	wantFollowed(t, "there already, nothing ahead", ahead, impl.Pose{0, 0, 1}, 0, 1, turnedTo(1))
	for _, heading := range []float32{7, -7, 100, 1e6, 3.1415930, 1e30} { // its cosine is not that of WrapAngle of it
		wantFollowed(t, "there already, unwrapped", []point{{0, 0}}, impl.Pose{0, 0, heading}, 1, 1, turnedTo(heading))
	}
}

// TestWaysThatLeadNowhere has a point ahead, or a difference, that is not finite.
func TestWaysThatLeadNowhere(t *testing.T) {
	lost := impl.Pose{nan, nan, nan}
	wantFollowed(t, "NaN ahead", []point{{-greatest, 1}, {greatest, 1}}, impl.Pose{-greatest, 1, 0}, 1, 0.5, lost)
	wantFollowed(t, "NaN ahead, no step", []point{{-greatest, 1}, {greatest, 1}}, impl.Pose{-greatest, 1, 0}, 1, 0, lost)
	wantFollowed(t, "an infinite difference", []point{{greatest, 0}}, impl.Pose{-greatest, 0, 0}, 1, 1, lost)
	wantFollowed(t, "an infinite difference of y", []point{{0, greatest}}, impl.Pose{0, -greatest, 0}, 1, 1, lost)
	wantFollowed(t, "a great step", []point{{greatest, 0}}, on(greatest), 1, greatest, on(infinite))
}

func TestWaysAreFollowedAgain(t *testing.T) {
	d := &dice{seed: 333}
	kinds := map[string]int{}
	for range 6000 {
		points := d.aWay(8)
		p := d.aPose(d.places())
		switch d.below(3) {
		case 0:
			at := points[d.below(len(points))]
			p[0], p[1] = at[0], at[1]
		case 1:
			at := d.aWay(1)[0]
			p[0], p[1] = at[0], at[1]
		}
		ahead := []float32{0, 0.5, 1, 3, greatest, 1e-3, minusZero}[d.below(7)]
		step := []float32{0.5, 1, -1, 0, minusZero, 0.1, greatest}[d.below(7)]
		want := followed(points, p, ahead, step)
		wantFollowed(t, startOf(points), points, p, ahead, step, want)
		switch turn := math.Abs(float64(wrapOf(difference(want[2], p[2])))); {
		case want[2] != want[2]:
			kinds["NaN"]++
		case turn > 0.49999 && turn < 0.50001:
			kinds["the most"]++
		case turn > 0:
			kinds["less"]++
		default:
			kinds["none"]++
		}
	}
	if kinds["NaN"] < 100 || kinds["the most"] < 1000 || kinds["less"] < 300 || kinds["none"] < 300 {
		t.Errorf("too few of a kind: %v", kinds)
	}
}

// TestVehicleOnAWay follows a route from its first spot to its last one.
func TestVehicleOnAWay(t *testing.T) {
	g := grid("..........", ".########.", "..........", ".########.", "..........")
	list, _, code := impl.BestRoute(g, spot(1, 0), spot(1, 4))
	wantCode(t, "BestRoute", code, impl.OK)
	short, code := impl.ShortenRoute(g, list)
	wantCode(t, "ShortenRoute", code, impl.OK)
	way, code := impl.PointsOf(list, point{-5, -5}, 1)
	wantCode(t, "PointsOf", code, impl.OK)
	corners, code := impl.PointsOf(short, point{-5, -5}, 1)
	wantCode(t, "PointsOf", code, impl.OK)
	long, _ := impl.LengthOfWay(way)
	less, _ := impl.LengthOfWay(corners)
	wantBool(t, "a way that is shortened is not longer", less <= long, true)
	p := impl.Pose{way[0][0], way[0][1], 0}
	for k := 0; k < 300 && !impl.AreNear(impl.Vec{p[0], p[1]}, impl.Vec{way[len(way)-1][0], way[len(way)-1][1]}, 0.25); k++ {
		p, code = impl.FollowWay(way, p, 0.75, 0.125)
		wantCode(t, "FollowWay", code, impl.OK)
		off := float32(math.Inf(1))
		for _, q := range way {
			off = min(off, root(squareOf(q, point{p[0], p[1]})))
		}
		wantBool(t, fmt.Sprint("FollowWay keeps to the way, at ", p), off < 1, true)
	}
	end := way[len(way)-1]
	wantNear(t, "FollowWay gets there", p[0], float64(end[0]), 0.25)
	wantNear(t, "FollowWay gets there", p[1], float64(end[1]), 0.25)
}
