package tests

import (
	"fmt"
	"slices"
	"testing"

	"loop.example/g01204/impl"
)

func wantLineOf(t *testing.T, a, b impl.Spot, want ...impl.Spot) {
	t.Helper()
	got, code := impl.SpotsBetween(a, b)
	wantSpots(t, fmt.Sprint("SpotsBetween ", a, b), got, code, want, impl.OK)
}

func TestSpotsBetween(t *testing.T) {
	wantLineOf(t, spot(0, 0), spot(0, 0), spot(0, 0))
	wantLineOf(t, spot(23, 23), spot(23, 23), spot(23, 23))
	wantLineOf(t, spot(0, 0), spot(3, 0), spot(0, 0), spot(1, 0), spot(2, 0), spot(3, 0))
	wantLineOf(t, spot(5, 7), spot(5, 5), spot(5, 7), spot(5, 6), spot(5, 5))
	wantLineOf(t, spot(2, 2), spot(0, 0), spot(2, 2), spot(1, 1), spot(0, 0))
	wantLineOf(t, spot(0, 0), spot(1, 1), spot(0, 0), spot(1, 1))
	wantLineOf(t, spot(0, 0), spot(3, 1), spot(0, 0), spot(1, 0), spot(2, 1), spot(3, 1))
	wantLineOf(t, spot(1, 3), spot(0, 0), spot(1, 3), spot(1, 2), spot(0, 1), spot(0, 0))
	// What is halfway between two spots goes to the greater one, whatever the direction is.
	wantLineOf(t, spot(0, 0), spot(2, 1), spot(0, 0), spot(1, 1), spot(2, 1))
	wantLineOf(t, spot(2, 1), spot(0, 0), spot(2, 1), spot(1, 1), spot(0, 0))
	wantLineOf(t, spot(0, 0), spot(1, 2), spot(0, 0), spot(1, 1), spot(1, 2))
	wantLineOf(t, spot(1, 0), spot(0, 2), spot(1, 0), spot(1, 1), spot(0, 2))
	wantLineOf(t, spot(0, 2), spot(4, 0), spot(0, 2), spot(1, 2), spot(2, 1), spot(3, 1), spot(4, 0))
	wantLineOf(t, spot(4, 0), spot(0, 2), spot(4, 0), spot(3, 1), spot(2, 1), spot(1, 2), spot(0, 2))
	wantLineOf(t, spot(0, 0), spot(4, 2), spot(0, 0), spot(1, 1), spot(2, 1), spot(3, 2), spot(4, 2))
}

func TestNoSpotsBetween(t *testing.T) {
	for _, k := range []int{-1, -2, 24, 25, 100, 255, 256, 32767, -32768} {
		for i := range 4 {
			c := [4]int{1, 2, 3, 4}
			c[i] = k
			got, code := impl.SpotsBetween(spot(c[0], c[1]), spot(c[2], c[3]))
			wantSpots(t, fmt.Sprint("SpotsBetween ", c), got, code, nil, impl.ErrRange)
		}
		got, code := impl.SpotsBetween(spot(k, k), spot(k, k))
		wantSpots(t, fmt.Sprint("SpotsBetween ", k, " and itself"), got, code, nil, impl.ErrRange)
	}
}

// TestAllSpotsBetween has all lines that there are.
func TestAllSpotsBetween(t *testing.T) {
	g, _ := impl.EmptyGrid(24, 24)
	all := spotsOf(g)
	for _, a := range all {
		for _, b := range all {
			got, code := impl.SpotsBetween(a, b)
			if code != impl.OK || !slices.Equal(got, straightLine(a, b)) {
				t.Fatalf("SpotsBetween %v %v: got %v and %d", a, b, got, code)
			}
		}
	}
}

// wantSees looks back as well.
func wantSees(t *testing.T, g impl.Grid, a, b impl.Spot, want bool) {
	t.Helper()
	for _, ends := range [2][2]impl.Spot{{a, b}, {b, a}} {
		got, code := impl.SeesSpot(g, ends[0], ends[1])
		wantBool(t, startOf("SeesSpot ", ends, g), got, want)
		wantCode(t, startOf("SeesSpot ", ends, g), code, impl.OK)
	}
}

func TestSeenSpots(t *testing.T) {
	wantSees(t, grid("."), spot(0, 0), spot(0, 0), true)
	wantSees(t, grid("#"), spot(0, 0), spot(0, 0), false)
	wantSees(t, grid("9999"), spot(0, 0), spot(3, 0), true)
	wantSees(t, impl.Grid{Wide: 1, High: 3, Costs: []uint8{254, 254, 254}}, spot(0, 0), spot(0, 2), true)
	wantSees(t, grid("#..."), spot(0, 0), spot(3, 0), false)
	wantSees(t, grid("...#"), spot(0, 0), spot(3, 0), false)
	wantSees(t, grid(".#.."), spot(0, 0), spot(3, 0), false)
	wantSees(t, grid("..#."), spot(0, 0), spot(3, 0), false)
	wantSees(t, grid("....", "####"), spot(0, 0), spot(3, 0), true)
	wantSees(t, grid("...", "...", "..."), spot(0, 0), spot(2, 2), true)
	wantSees(t, grid("...", ".#.", "..."), spot(0, 0), spot(2, 2), false)
	for _, rows := range [][]string{{".#", ".."}, {"..", "#."}, {".#", "#."}, {"#.", ".."}, {"..", ".#"}} { // by a corner
		wantSees(t, grid(rows...), spot(0, 0), spot(1, 1), false)
	}
	for _, rows := range [][]string{{"#.", ".."}, {"..", ".#"}, {"#.", ".#"}, {".#", ".."}, {"..", "#."}} {
		wantSees(t, grid(rows...), spot(1, 0), spot(0, 1), false)
	}
	wantSees(t, grid(".9", "9."), spot(0, 0), spot(1, 1), true)
	// From 0, 0 by 1, 0 and 2, 1 to 3, 1: the corner is at 2, 0 and 1, 1.
	wantSees(t, grid("..2.", "3..."), spot(0, 0), spot(3, 1), true)
	wantSees(t, grid("..#.", "...."), spot(0, 0), spot(3, 1), false)
	wantSees(t, grid("....", ".#.."), spot(0, 0), spot(3, 1), false)
	wantSees(t, grid("...#", "#..."), spot(0, 0), spot(3, 1), true)
	wantSees(t, grid(".#..", "...."), spot(0, 0), spot(3, 1), false)
	wantSees(t, grid("....", "..#."), spot(0, 0), spot(3, 1), false)
}

func TestSpotsThatAreNotInAGrid(t *testing.T) {
	for _, g := range []impl.Grid{grid("...", ".#."), grid("#"), grid("."), grid("....................")} {
		for _, none := range noSpots(g) {
			for _, s := range append(noSpots(g), spotsOf(g)...) {
				for _, ends := range [2][2]impl.Spot{{none, s}, {s, none}} {
					got, code := impl.SeesSpot(g, ends[0], ends[1])
					wantBool(t, fmt.Sprint("SeesSpot ", ends), got, false)
					wantCode(t, fmt.Sprint("SeesSpot ", ends), code, impl.ErrRange)
				}
			}
		}
	}
}

func TestSeenSpotsAgain(t *testing.T) {
	d := &dice{seed: 320}
	found := map[bool]int{}
	for range 800 {
		g := d.aGrid(24)
		for range 40 {
			a, b := d.aSpot(g), d.aSpot(g)
			want := seenFrom(g, a, b)
			wantSees(t, g, a, b, want)
			found[want]++
		}
	}
	if found[true] < 3000 || found[false] < 3000 {
		t.Errorf("too few of a kind: %v", found)
	}
}

func wantShort(t *testing.T, what string, g impl.Grid, list []impl.Spot, want ...impl.Spot) {
	t.Helper()
	got, code := impl.ShortenRoute(g, list)
	wantSpots(t, startOf("ShortenRoute, ", what, g, list), got, code, want, impl.OK)
}

func TestShortenedRoutes(t *testing.T) {
	open := grid("....", "....", "....")
	a, b, c := spot(0, 0), spot(1, 0), spot(2, 0)
	wantShort(t, "one spot", open, route(a), a)
	wantShort(t, "two spots", open, route(a, b), a, b)
	wantShort(t, "straight on", open, route(a, b, c, spot(3, 0)), a, spot(3, 0))
	wantShort(t, "a detour", open, route(a, spot(0, 1), spot(0, 2), spot(1, 2), spot(2, 1)), a, spot(2, 1))
	wantShort(t, "costs do not count", grid(".99", "..."), route(a, spot(0, 1), spot(1, 1), spot(2, 0)), a, spot(2, 0))
	around := grid("...", ".#.", "...")
	wantShort(t, "around a wall", around, route(a, b, c, spot(2, 1), spot(2, 2)), a, c, spot(2, 2))
	wantShort(t, "all around a wall", around, route(a, b, c, spot(2, 1), spot(2, 2), spot(1, 2), spot(0, 2)), a, spot(0, 2))
	// By its index: the list goes on where a spot comes again.
	wantShort(t, "there and back", open, route(a, b, a), a, a)
	wantShort(t, "there and back twice", open, route(a, b, a, b, a), a, a)
	wantShort(t, "back, and on", open, route(b, a, b, c), b, c)
	wantShort(t, "a ring", around, route(a, b, c, spot(2, 1), spot(2, 2), spot(1, 2), spot(0, 2), spot(0, 1), a), a, a)
	row := grid("...", "##.", "...")
	wantShort(t, "the end comes before", row, route(c, b, a, b, c, spot(2, 1), spot(2, 2), spot(1, 2), spot(0, 2), spot(1, 2)), c, spot(2, 2), spot(1, 2))
	wantShort(t, "the end is where it begins", row, route(a, b, c, spot(2, 1), spot(2, 2), spot(2, 1), c, b), a, b)
	// The last one that is seen counts, also if one before it is not.
	wantShort(t, "what is seen again", grid(".....", ".###.", "....."), route(spot(1, 0), a, spot(0, 1), spot(0, 2), spot(1, 2), spot(2, 2), spot(3, 2), spot(4, 2), spot(4, 1), spot(4, 0)), spot(1, 0), spot(4, 0))
	g, from, to := snake()
	best, _, _ := impl.BestRoute(g, from, to)
	short := shortened(g, best)
	wantShort(t, "a snake", g, best, short...)
	wantIndex(t, "ShortenRoute of a snake", int64(len(short)), 0, 25, 0) // each corner, and both ends
	long := slices.Repeat(route(from, spot(1, 0)), 300)
	wantShort(t, "600 spots", g, long, from, spot(1, 0))
}

// TestShortenedRoutesAgain has routes that are best ones, or go round and round.
func TestShortenedRoutesAgain(t *testing.T) {
	d := &dice{seed: 321}
	found := map[int]int{}
	for range 4000 {
		g := d.aGrid(24)
		from, ok := d.aFreeSpot(g)
		if !ok {
			continue
		}
		list := d.aWalk(g, from, 1+d.below(50))
		if d.below(2) == 0 {
			list, _, _ = impl.BestRoute(g, from, list[len(list)-1])
		}
		got, code := impl.ShortenRoute(g, list)
		wantSpots(t, startOf("ShortenRoute ", list, g), got, code, shortened(g, list), impl.OK)
		wantBool(t, "ShortenRoute keeps the ends", got[0] == list[0] && got[len(got)-1] == list[len(list)-1], true)
		for i := 1; i < len(got); i++ {
			wantSees(t, g, got[i-1], got[i], true)
		}
		found[min(len(got), 5)]++
	}
	for n := 1; n <= 5; n++ {
		if found[n] < 50 {
			t.Errorf("too few shortened routes with %d spots: %v", n, found)
		}
	}
}

// TestLongWinding has a route with most spots, of which many see few others.
func TestLongWinding(t *testing.T) {
	g, from, to := snake()
	there, _, _ := impl.BestRoute(g, from, to)
	back := slices.Clone(there)
	slices.Reverse(back)
	long := append(slices.Clone(there), back[1:]...)
	if len(long) > 600 {
		long = long[:600]
	}
	short := shortened(g, long)
	for range 20 {
		wantShort(t, "there and back in a snake", g, long, short...)
	}
}
