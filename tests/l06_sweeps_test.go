package tests

import (
	"fmt"
	"math"
	"slices"
	"testing"

	"loop.example/g01204/impl"
)

// wantSwept makes one sweep, and the same one by RelaxGraph.
func wantSwept(t *testing.T, what string, g impl.PoseGraph, changed int64, want ...impl.Pose) {
	t.Helper()
	after := impl.PoseGraph{Poses: want, Links: g.Links}
	got, count, code := impl.SweepOnce(g)
	wantGraph(t, "SweepOnce, "+what, got, code, after, impl.OK)
	wantIndex(t, "SweepOnce, "+what, count, code, changed, impl.OK)
	got, count, code = impl.RelaxGraph(g, 1)
	wantGraph(t, "RelaxGraph, "+what, got, code, after, impl.OK)
	wantIndex(t, "RelaxGraph, "+what, count, code, 1, impl.OK)
}

// wantRest has a graph in which a sweep changes nothing.
func wantRest(t *testing.T, what string, g impl.PoseGraph) {
	t.Helper()
	wantSwept(t, what, g, 0, g.Poses...)
	got, count, code := impl.RelaxGraph(g, 50)
	wantGraph(t, "RelaxGraph, "+what, got, code, g, impl.OK)
	wantIndex(t, "RelaxGraph, "+what, count, code, 1, impl.OK)
}

func TestSweepsAlongALine(t *testing.T) {
	wantSwept(t, "a link", rowOf(links(linkOn(0, 1, 4, 2)), 1, 0), 1, on(1), on(5))
	wantSwept(t, "a link back", rowOf(links(linkOn(1, 0, 4, 2)), 1, 0), 1, on(1), on(-3))
	wantSwept(t, "links that do not agree", rowOf(links(linkOn(0, 1, 4, 3), linkOn(0, 1, 2, 1)), 0, 0), 1, on(0), on(3.5))
	wantSwept(t, "links of both directions", rowOf(links(linkOn(0, 1, 4, 1), linkOn(1, 0, 2, 3)), 0, 0), 1, on(0), on(-0.5))
	aside := impl.PoseGraph{Poses: []impl.Pose{{1, 2, 0}, {0, 0, 0}}, Links: links(impl.Link{From: 0, To: 1, Step: impl.Pose{4, 5, 0}, Weight: 1}, impl.Link{From: 1, To: 0, Step: impl.Pose{2, 1, 0}, Weight: 1})}
	wantSwept(t, "both axes", aside, 1, impl.Pose{1, 2, 0}, impl.Pose{2, 4, 0})
	between := rowOf(links(linkOn(0, 1, 1, 1), linkOn(1, 2, 1, 3)), 0, 9, 10)
	wantSwept(t, "between two", between, 2, on(0), on(7), on(8))
	loose := rowOf(links(linkOn(2, 4, 5, 1)), 1, 2, 3, 4, 5)
	wantSwept(t, "poses without links", loose, 1, on(1), on(2), on(0), on(4), on(5))
	zero := impl.PoseGraph{Poses: []impl.Pose{{minusZero, 5, 0}, {3, 0, 0}}, Links: links(impl.Link{From: 0, To: 1, Step: impl.Pose{minusZero, 1, 0}, Weight: 2})}
	wantSwept(t, "-0 is told", zero, 1, impl.Pose{minusZero, 5, 0}, impl.Pose{minusZero, 6, 0})
	zero.Links = append(zero.Links, zero.Links[0])
	wantSwept(t, "-0 is told twice", zero, 1, impl.Pose{minusZero, 5, 0}, impl.Pose{minusZero, 6, 0})
	wantRest(t, "no links", rowOf(nil, 1, 2, 3))
	wantRest(t, "one pose", rowOf(nil, 7))
	wantRest(t, "links that fit", fullGraph())
}

// TestOrderOfASweep has poses that see those before them where they are then.
func TestOrderOfASweep(t *testing.T) {
	// The pose 1 goes to (3 * 1 - 1) / 4, and the pose 2 behind it.
	wantSwept(t, "one after the other", rowOf(links(linkOn(0, 1, 1, 3), linkOn(1, 2, 1, 1)), 0, 0, 0), 2, on(0), on(0.5), on(1.5))
	wantSwept(t, "links in another order", rowOf(links(linkOn(1, 2, 1, 1), linkOn(0, 1, 1, 3)), 0, 0, 0), 2, on(0), on(0.5), on(1.5))
	// The pose 1 goes to where the pose 2 still was, and one more; the pose 2 to (1 + 3 * (1 - 1)) / 4.
	wantSwept(t, "not by their links", rowOf(links(linkOn(0, 2, 1, 1), linkOn(2, 1, 1, 3)), 0, 0, 0), 2, on(0), on(1), on(0.25))
	third := quotient(2047, 1025)
	wantSwept(t, "one stays, two follow", rowOf(links(linkOn(0, 1, 1, 1<<20), linkOn(1, 2, 1, 1<<10), linkOn(2, 3, 1, 1)), 0, 1, 2, 0), 2, on(0), on(1), on(third), on(sum(third, 1)))
	wantSwept(t, "the first pose stays", rowOf(links(linkOn(0, 1, 1, 1), linkOn(2, 0, 1, 1)), 5, 6, 7), 1, on(5), on(6), on(4))
	wantRest(t, "the first pose stays", rowOf(links(linkOn(0, 1, 1, 1), linkOn(1, 0, 1, 1)), 5, 5))
}

// TestOrderOfTheSumsOfASweep has numbers that are lost in other orders: 2^24 and 1
// make 2^24, but 1 and 1 and 2^24 make more.
func TestOrderOfTheSumsOfASweep(t *testing.T) {
	far, near := linkOn(0, 1, 1<<24, 1), linkOn(0, 1, 1, 1)
	wantSwept(t, "the furthest first", rowOf(links(far, near, near), 0, 0), 1, on(0), on(5592405.5))
	wantSwept(t, "the furthest last", rowOf(links(near, near, far), 0, 0), 1, on(0), on(5592406))
	heavy, light := linkOn(0, 1, 3, 1<<24), linkOn(0, 1, 3, 1)
	wantSwept(t, "the heaviest first", rowOf(links(heavy, light, light), 0, 0), 1, on(0), on(quotient(3<<24+8, 1<<24)))
	wantSwept(t, "the heaviest last", rowOf(links(light, light, heavy), 0, 0), 1, on(0), on(quotient(3<<24+8, 1<<24+2)))
}

func TestSweepsThatAreNotKept(t *testing.T) {
	wantSwept(t, "one that goes nowhere", rowOf(links(linkOn(0, 1, 1, 1), linkOn(1, 2, 1, 1)), 0, 0, 0), 1, on(0), on(0), on(1))
	minus := impl.PoseGraph{Poses: []impl.Pose{{}, {minusZero, minusZero, minusZero}}, Links: links(linkOn(0, 1, 0, 1))}
	wantRest(t, "-0 stays where 0 is told", minus)
	heavy := links(linkOn(0, 1, 1, 1<<25), linkOn(0, 1, -1, 1<<25), linkOn(0, 2, 1, 1))
	wantRest(t, "a cost that is too small for the sum", rowOf(heavy, 0, 0, 0))
	heavy[0].Weight, heavy[1].Weight = 1<<23, 1<<23
	wantRest(t, "a cost that is too small for the sum", rowOf(heavy, 0, 0, 0))
	heavy[0].Weight, heavy[1].Weight = 1<<22, 1<<22
	wantSwept(t, "a cost that is just great enough", rowOf(heavy, 0, 0, 0), 1, on(0), on(0), on(1))
	// Half of the turn that is told takes the pose 2 far aside.
	long := impl.PoseGraph{Poses: []impl.Pose{{}, {}, on(100)}, Links: links(impl.Link{From: 0, To: 1, Step: impl.Pose{1, 0, 1}, Weight: 1}, linkOn(1, 2, 100, 1))}
	moved := movedPose(long, 1)
	wantBool(t, fmt.Sprint("what is told: ", moved), isNearPose(moved, impl.Pose{0.5, 0, 0.5}, 1e-5), true)
	wantRest(t, "a turn that costs more", long)
	long.Poses = append(long.Poses, on(5))
	long.Links = append(long.Links, linkOn(0, 3, 6, 1))
	wantSwept(t, "a turn that costs more, and others behind it", long, 1, impl.Pose{}, impl.Pose{}, on(100), on(6))
}

func TestSweepsThatAreNotFinite(t *testing.T) {
	wantSwept(t, "an infinite cost before", rowOf(links(linkOn(0, 1, 4, 1)), 0, 1e30), 1, on(0), on(4))
	wantRest(t, "NaN before", lostRow(lostLink(1)))
	wantRest(t, "NaN before, and others", lostRow(lostLink(1), linkOn(0, 3, 1e30, 1)))
	wantRest(t, "always infinite", rowOf(links(linkOn(0, 1, 1e30, 1), linkOn(0, 1, -1e30, 1), linkOn(0, 2, 1, 1)), 0, 0, 0))
	wantRest(t, "an infinite place", rowOf(links(linkOn(0, 1, greatest, 1)), greatest, 0))
	wantRest(t, "an infinite product", rowOf(links(linkOn(0, 1, 3e38, 2)), 0, 0))
	wantRest(t, "an infinite sum", rowOf(links(linkOn(0, 1, 3e38, 1), linkOn(0, 1, 3e38, 1)), 0, 0))
	wantSwept(t, "an infinite weight", rowOf(links(linkOn(0, 1, 0.25, greatest), linkOn(0, 1, 0.5, greatest)), 0, 1), 1, on(0), on(0))
	wantRest(t, "an infinite weight that costs more", rowOf(links(linkOn(0, 1, 0.25, greatest), linkOn(0, 1, 0.5, greatest)), 0, 0.5))
	wantRest(t, "an infinite weight and an infinite sum", rowOf(links(linkOn(0, 1, 0.75, greatest), linkOn(0, 1, 0.5, greatest)), 0, 0.625))
	wild := impl.PoseGraph{Poses: []impl.Pose{{0, 0, greatest}, {}}, Links: links(impl.Link{From: 0, To: 1, Step: impl.Pose{0, 0, greatest}, Weight: 1})}
	wantRest(t, "an infinite heading", wild)
	wild.Links[0].From, wild.Links[0].To = 1, 0
	wild.Links[0].Step[2] = -greatest
	wantRest(t, "a turn that is lost in a great heading", wild)
}

// TestHeadingsOfSweeps has headings next to half a turn, where means of the
// headings would lead the other way.
func TestHeadingsOfSweeps(t *testing.T) {
	heading := func(from, to int64, turn, weight float32) impl.Link {
		return impl.Link{From: from, To: to, Step: impl.Pose{0, 0, turn}, Weight: weight}
	}
	for _, at := range []struct {
		what  string
		old   float32
		links []impl.Link
		want  float32
	}{
		{"over the edge", 3, links(heading(0, 1, -3, 1)), -3},
		{"over the edge, the other way", -3, links(heading(1, 0, -3, 1)), 3},
		{"from both sides", 3.1, links(heading(0, 1, -3, 1), heading(0, 1, 3, 1)), -impl.Pi},
		{"mostly from one side", 3.1, links(heading(0, 1, -3, 3), heading(0, 1, 3, 1)), 3.1 + (3*(wideTurn-6.1)-0.1)/4},
		{"a mean", 0.5, links(heading(0, 1, 1, 3), heading(0, 1, -1, 1)), 0.5},
		{"a mean", 0.1, links(heading(0, 1, 1, 3), heading(1, 0, 1, 1)), 0.5},
		{"a heading that is not wrapped", 7, links(heading(0, 1, 1, 1)), 1},
		{"a step that is not wrapped", 0, links(heading(0, 1, 20, 1)), 20 - 3*wideTurn},
	} {
		g := impl.PoseGraph{Poses: []impl.Pose{{}, {0, 0, at.old}}, Links: at.links}
		got, _, code := impl.SweepOnce(g)
		wantCode(t, at.what, code, impl.OK)
		if !isNearPose(got.Poses[1], impl.Pose{0, 0, at.want}, 1e-5) || sizeOf(got.Poses[1][2]) > impl.Pi {
			t.Errorf("SweepOnce, %s: got %v, want nearly %v", at.what, got.Poses[1], at.want)
		}
	}
	turned := impl.PoseGraph{Poses: []impl.Pose{{1, 1, impl.Pi / 2}, {}}, Links: links(impl.Link{From: 0, To: 1, Step: impl.Pose{2, 1, 1}, Weight: 2})}
	got, changed, code := impl.SweepOnce(turned)
	wantIndex(t, "SweepOnce, seen from a pose that is turned", changed, code, 1, impl.OK)
	wantNearPose(t, "SweepOnce, seen from a pose that is turned", got.Poses[1], impl.Pose{0, 3, impl.Pi/2 + 1}, 1e-5)
	turned.Links[0].From, turned.Links[0].To = 1, 0
	got, changed, code = impl.SweepOnce(turned)
	wantIndex(t, "SweepOnce, seen back", changed, code, 1, impl.OK)
	wantPose(t, "SweepOnce, seen back", got.Poses[1], movedPose(turned, 1))
	wantNearPose(t, "SweepOnce, seen back", impl.ComposePoses(got.Poses[1], turned.Links[0].Step), turned.Poses[0], 1e-5)
}

func sizeOf(a float32) float32 { return float32(math.Abs(float64(a))) }

// wantNoMore holds the cost behind sweeps against that before.
func wantNoMore(t *testing.T, what string, g, h impl.PoseGraph) {
	t.Helper()
	before, code := impl.CostOf(g)
	wantCode(t, "CostOf before "+what, code, impl.OK)
	after, code := impl.CostOf(h)
	wantCode(t, "CostOf behind "+what, code, impl.OK)
	switch {
	case before != before || after == before:
		wantGraph(t, what+" without a gain", h, impl.OK, g, impl.OK)
	case !(after < before):
		t.Errorf("%s: the cost %g became %g", what, before, after)
	}
	wantPose(t, "the first pose behind "+what, h.Poses[0], g.Poses[0])
	wantBool(t, startOf("ValidGraph behind ", what), impl.ValidGraph(h), true)
}

func TestSweepsAgain(t *testing.T) {
	d := &dice{seed: 220}
	kinds := map[string]int64{}
	for range 3000 {
		g := d.anyGraph(7)
		want, wanted, refused := sweptGraph(g)
		got, changed, code := impl.SweepOnce(g)
		wantGraph(t, startOf("SweepOnce ", g), got, code, want, impl.OK)
		wantIndex(t, startOf("SweepOnce ", g), changed, code, wanted, impl.OK)
		wantNoMore(t, startOf("SweepOnce ", g), g, got)
		for i := range g.Poses {
			if !samePose(g.Poses[i], got.Poses[i]) {
				changed--
			}
		}
		wantIndex(t, startOf("poses that are changed without being counted: ", g), changed, code, 0, impl.OK)
		kinds["changed"] += wanted
		kinds["refused"] += refused
		sweeps := int64(d.below(8))
		want, wanted = relaxedGraph(g, sweeps)
		got, made, code := impl.RelaxGraph(g, sweeps)
		wantGraph(t, startOf("RelaxGraph ", sweeps, g), got, code, want, impl.OK)
		wantIndex(t, startOf("RelaxGraph ", sweeps, g), made, code, wanted, impl.OK)
		if made < sweeps {
			kinds["at rest"]++
		}
	}
	if kinds["changed"] < 1000 || kinds["refused"] < 1000 || kinds["at rest"] < 200 {
		t.Errorf("too few of a kind: %v", kinds)
	}
}

// TestNumberOfSweeps counts the last one, in which nothing is changed.
func TestNumberOfSweeps(t *testing.T) {
	relax := func(what string, g impl.PoseGraph, sweeps, made int64, want ...impl.Pose) {
		t.Helper()
		got, count, code := impl.RelaxGraph(g, sweeps)
		wantGraph(t, fmt.Sprint("RelaxGraph ", sweeps, ", ", what), got, code, impl.PoseGraph{Poses: want, Links: g.Links}, impl.OK)
		wantIndex(t, fmt.Sprint("RelaxGraph ", sweeps, ", ", what), count, code, made, impl.OK)
	}
	g := rowOf(links(linkOn(0, 1, 4, 2)), 1, 0)
	relax("none", g, 0, 0, on(1), on(0))
	relax("one", g, 1, 1, on(1), on(5))
	for _, sweeps := range []int64{2, 3, 49, 50} {
		relax("two", g, sweeps, 2, on(1), on(5))
	}
	relax("none, at rest", rowOf(nil, 3), 0, 0, on(3))
	relax("one, at rest", rowOf(nil, 3), 1, 1, on(3))
	relax("one, at rest", rowOf(nil, 3), 50, 1, on(3))
	// Poses that lead on one after the other come to rest in two sweeps, those the other way round need one sweep each.
	slow := rowOf(links(linkOn(0, 3, 1, 1<<20), linkOn(3, 2, 1, 1<<10), linkOn(2, 1, 1, 1)), 0, 0, 0, 0)
	_, made, code := impl.RelaxGraph(slow, 50)
	wantBool(t, fmt.Sprint("RelaxGraph, slow: ", made, code), code == impl.OK && made > 3, true)
	for _, sweeps := range []int64{-1, 51, 52, math.MaxInt64, math.MinInt64, 1 << 32, 1<<32 + 5} {
		for _, g := range goodGraphs() {
			h, made, code := impl.RelaxGraph(g, sweeps)
			wantGraph(t, fmt.Sprint("RelaxGraph ", sweeps), h, code, impl.PoseGraph{}, impl.ErrRange)
			wantIndex(t, fmt.Sprint("RelaxGraph ", sweeps), made, code, 0, impl.ErrRange)
		}
	}
}

// longRing returns a ring of poses, with links across, that are all a little off.
func (d *dice) longRing(poses, count int) impl.PoseGraph {
	var g impl.PoseGraph
	for k := range poses {
		a := float64(k) / float64(poses) * wideTurn
		g.Poses = append(g.Poses, impl.Pose{float32(5 * math.Cos(a)), float32(5 * math.Sin(a)), float32(a)})
	}
	for k := range count {
		from := k % poses
		to := (from + 1 + k/poses*7%(poses-1)) % poses
		x := impl.Link{From: int64(from), To: int64(to), Step: stepOver(g.Poses[from], g.Poses[to]), Weight: 1 + float32(d.below(3))}
		for i := range x.Step {
			x.Step[i] += d.unit() / 16
		}
		g.Links = append(g.Links, x)
	}
	for i := range g.Poses[1:] {
		for k := range 3 {
			g.Poses[i+1][k] += d.unit() / 4
		}
	}
	return g
}

// TestManySweeps makes them one by one, and at once.
func TestManySweeps(t *testing.T) {
	d := &dice{seed: 221}
	g := d.longRing(60, 120)
	want, changed, _ := sweptGraph(g)
	h, got, code := impl.SweepOnce(g)
	wantGraph(t, "SweepOnce of a full graph", h, code, want, impl.OK)
	wantIndex(t, "SweepOnce of a full graph", got, code, changed, impl.OK)
	for k := range 30 {
		g := d.longRing(3+2*k%58, 120-3*k)
		now := g
		for sweeps := int64(1); sweeps <= 50; sweeps++ {
			next, changed, code := impl.SweepOnce(now)
			wantCode(t, "SweepOnce", code, impl.OK)
			wantNoMore(t, "a sweep of a ring", now, next)
			now = next
			if k == 0 || sweeps == 50 || changed == 0 {
				h, made, code := impl.RelaxGraph(g, sweeps)
				wantGraph(t, fmt.Sprint("RelaxGraph ", sweeps), h, code, now, impl.OK)
				wantIndex(t, fmt.Sprint("RelaxGraph ", sweeps), made, code, sweeps, impl.OK)
			}
			if changed == 0 {
				break
			}
		}
		before, _ := impl.CostOf(g)
		after, _ := impl.CostOf(now)
		wantBool(t, fmt.Sprint("much of the cost is gone: ", before, after), after < before/4, true)
	}
}

// TestSweepsFindTheWay relaxes chains with noise whose last link closes a loop.
func TestSweepsFindTheWay(t *testing.T) {
	d := &dice{seed: 222}
	for range 200 {
		truth := []impl.Pose{{}}
		var steps []impl.Pose
		for range 8 {
			step := impl.Pose{1, 0, impl.Pi / 4}
			truth = append(truth, composed(truth[len(truth)-1], step))
			for i := range step {
				step[i] += d.unit() / 8
			}
			steps = append(steps, step)
		}
		g, code := impl.ChainGraph(impl.Pose{}, steps, 1)
		wantCode(t, "ChainGraph", code, impl.OK)
		g, code = impl.AddLink(g, impl.Link{From: 8, To: 0, Weight: 100})
		wantCode(t, "AddLink", code, impl.OK)
		g.Links = append(g.Links, impl.Link{From: 0, To: 4, Step: truth[4], Weight: 100})
		h, _, code := impl.RelaxGraph(g, 50)
		wantCode(t, "RelaxGraph", code, impl.OK)
		wantNoMore(t, "RelaxGraph of a loop", g, h)
		worst := slices.MaxFunc([]int{4, 8}, func(a, b int) int {
			return orderOf(farFrom(h.Poses[a], truth[a]), farFrom(h.Poses[b], truth[b]))
		})
		wantBool(t, fmt.Sprint("a pose that is known well: ", h.Poses[worst], truth[worst]), farFrom(h.Poses[worst], truth[worst]) < 0.2, true)
	}
}

// farFrom returns how far the places of two poses are apart.
func farFrom(p, q impl.Pose) float32 {
	return float32(math.Hypot(float64(p[0]-q[0]), float64(p[1]-q[1])))
}
