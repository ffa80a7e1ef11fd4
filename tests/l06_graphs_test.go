package tests

import (
	"fmt"
	"math"
	"slices"
	"testing"

	"loop.example/g01204/impl"
)

// goodGraphs returns graphs that are valid, some of them just so.
func goodGraphs() []impl.PoseGraph {
	x := linkOn(0, 1, 1, 1)
	wild := impl.PoseGraph{
		Poses: []impl.Pose{{greatest, -greatest, greatest}, {tiniest, minusZero, -1000}},
		Links: links(linkOn(1, 0, -greatest, greatest), impl.Link{From: 0, To: 1, Step: impl.Pose{0, minusZero, greatest}, Weight: tiniest}),
	}
	return []impl.PoseGraph{
		rowOf(nil, 0), rowOf([]impl.Link{}, 7), rowOf(nil, 1, 1, 1), longChain(2), longChain(60), fullGraph(), wild,
		rowOf(links(x, x, x), 0, 1), rowOf(links(x, linkOn(1, 0, -1, 1)), 0, 1), rowOf(slices.Repeat(links(x), 120), 0, 1), rowOf(links(linkOn(2, 0, 1, 1)), 0, 1, 2),
	}
}

func TestValidGraphs(t *testing.T) {
	each(goodGraphs(), func(what string, g impl.PoseGraph) {
		wantBool(t, "ValidGraph, "+what, impl.ValidGraph(g), true)
	})
	each(badGraphs(), func(what string, g impl.PoseGraph) {
		wantBool(t, "ValidGraph, "+what, impl.ValidGraph(g), false)
	})
	d := &dice{seed: 210}
	for range 1000 {
		g := d.anyGraph(60)
		wantBool(t, startOf("ValidGraph ", g), impl.ValidGraph(g), true)
	}
}

// TestGraphsThatAreNotValid hands each of them to all functions that take one,
// with other arguments that would be errors as well.
func TestGraphsThatAreNotValid(t *testing.T) {
	each(badGraphs(), func(what string, g impl.PoseGraph) {
		none := func(name string, h impl.PoseGraph, code int64) {
			t.Helper()
			wantGraph(t, name+", "+what, h, code, impl.PoseGraph{}, impl.ErrInvalid)
		}
		for _, x := range []impl.Link{linkOn(0, 1, 1, 1), {}, linkOn(0, 1000, 1, 1), linkOn(0, 1, nan, nan)} {
			h, code := impl.AddLink(g, x)
			none("AddLink", h, code)
			for _, bound := range []float32{infinite, 0, -1, nan} {
				h, code = impl.TakeLoop(g, x, bound)
				none("TakeLoop", h, code)
			}
		}
		for _, k := range []int64{0, 1, -1, 1000, math.MaxInt64, math.MinInt64} {
			p, code := impl.ResidualOf(g, k)
			wantPose(t, "ResidualOf, "+what, p, impl.Pose{})
			wantCode(t, "ResidualOf, "+what, code, impl.ErrInvalid)
			apart, code := impl.LinksApart(g, 0, k)
			wantIndex(t, "LinksApart, "+what, apart, code, 0, impl.ErrInvalid)
			h, sweeps, code := impl.RelaxGraph(g, k)
			none("RelaxGraph", h, code)
			wantIndex(t, "RelaxGraph, "+what, sweeps, code, 0, impl.ErrInvalid)
		}
		cost, code := impl.CostOf(g)
		wantNumberCode(t, "CostOf, "+what, cost, code, 0, impl.ErrInvalid)
		h, changed, code := impl.SweepOnce(g)
		none("SweepOnce", h, code)
		wantIndex(t, "SweepOnce, "+what, changed, code, 0, impl.ErrInvalid)
		worst, code := impl.WorstLink(g)
		wantIndex(t, "WorstLink, "+what, worst, code, 0, impl.ErrInvalid)
		wantBool(t, "SameGraph of itself, "+what, impl.SameGraph(g, cloneOf(g)), true)
	})
}

func TestSameGraphs(t *testing.T) {
	g := rowOf(links(linkOn(0, 1, 1, 1), linkOn(2, 0, -2, 3)), 0, 1, 2)
	wantBool(t, "SameGraph", impl.SameGraph(g, cloneOf(g)), true)
	wantBool(t, "SameGraph of nothing", impl.SameGraph(impl.PoseGraph{}, impl.PoseGraph{Poses: []impl.Pose{}, Links: []impl.Link{}}), true)
	unlike := func(what string, change func(h *impl.PoseGraph)) {
		t.Helper()
		h := cloneOf(g)
		change(&h)
		wantBool(t, "SameGraph, "+what, impl.SameGraph(g, h), false)
		wantBool(t, "SameGraph, the other way round, "+what, impl.SameGraph(h, g), false)
		wantBool(t, "SameGraph of itself, "+what, impl.SameGraph(h, cloneOf(h)), true)
	}
	unlike("no poses", func(h *impl.PoseGraph) { h.Poses = nil })
	unlike("no links", func(h *impl.PoseGraph) { h.Links = nil })
	unlike("a pose less", func(h *impl.PoseGraph) { h.Poses = h.Poses[:2] })
	unlike("a link less", func(h *impl.PoseGraph) { h.Links = h.Links[:1] })
	unlike("a pose more", func(h *impl.PoseGraph) { h.Poses = append(h.Poses, impl.Pose{}) })
	unlike("a link more", func(h *impl.PoseGraph) { h.Links = append(h.Links, impl.Link{}) })
	unlike("links in another order", func(h *impl.PoseGraph) { h.Links[0], h.Links[1] = h.Links[1], h.Links[0] })
	unlike("poses in another order", func(h *impl.PoseGraph) { h.Poses[0], h.Poses[1] = h.Poses[1], h.Poses[0] })
	for i := range 3 {
		for k := range 3 {
			unlike("a number of a pose", func(h *impl.PoseGraph) { h.Poses[i][k] = 9 })
			unlike("NaN", func(h *impl.PoseGraph) { h.Poses[i][k] = nan })
			unlike("-0 and 0", func(h *impl.PoseGraph) { h.Poses[0][k] = minusZero })
		}
	}
	for i := range 2 {
		unlike("From", func(h *impl.PoseGraph) { h.Links[i].From = 5 })
		unlike("To", func(h *impl.PoseGraph) { h.Links[i].To = 1 << 32 })
		unlike("Weight", func(h *impl.PoseGraph) { h.Links[i].Weight = nan })
		for k := range 3 {
			unlike("Step", func(h *impl.PoseGraph) { h.Links[i].Step[k] = 9 })
		}
		unlike("-0 and 0 in Step", func(h *impl.PoseGraph) { h.Links[i].Step[1] = minusZero })
	}
	a, b := cloneOf(g), cloneOf(g)
	a.Poses[1][1], a.Links[1].Step[2], a.Links[0].Weight = nan, otherNaN, nan
	b.Poses[1][1], b.Links[1].Step[2], b.Links[0].Weight = otherNaN, nan, otherNaN
	wantBool(t, "SameGraph of NaN", impl.SameGraph(a, b), true)
}

func TestLinksThatAreAdded(t *testing.T) {
	g := rowOf(links(linkOn(0, 1, 1, 1)), 0, 1, 2)
	for _, x := range []impl.Link{
		linkOn(0, 1, 1, 1), linkOn(1, 0, 1, 1), linkOn(2, 0, -5, tiniest), linkOn(1, 2, greatest, greatest),
		{From: 0, To: 2, Step: impl.Pose{minusZero, -greatest, 1000}, Weight: 0.5},
	} {
		got, code := impl.AddLink(g, x)
		wantGraph(t, fmt.Sprint("AddLink ", x), got, code, rowOf(links(g.Links[0], x), 0, 1, 2), impl.OK)
		got, code = impl.AddLink(rowOf(nil, 0, 1, 2), x)
		wantGraph(t, fmt.Sprint("AddLink, the first one, ", x), got, code, rowOf(links(x), 0, 1, 2), impl.OK)
	}
	full := fullGraph()
	nearly := impl.PoseGraph{Poses: full.Poses, Links: full.Links[:119]}
	got, code := impl.AddLink(nearly, full.Links[119])
	wantGraph(t, "AddLink, as many as there may be", got, code, full, impl.OK)
	got, code = impl.TakeLoop(nearly, full.Links[119], infinite)
	wantGraph(t, "TakeLoop, as many as there may be", got, code, full, impl.OK)
}

func TestLinksThatAreNotAdded(t *testing.T) {
	refuse := func(what string, g impl.PoseGraph, x impl.Link, want int64) {
		t.Helper()
		h, code := impl.AddLink(g, x)
		wantGraph(t, "AddLink, "+what, h, code, impl.PoseGraph{}, want)
		for _, bound := range []float32{infinite, 0, -1, -infinite} {
			h, code = impl.TakeLoop(g, x, bound)
			wantGraph(t, "TakeLoop, "+what, h, code, impl.PoseGraph{}, want)
		}
		for _, bound := range []float32{nan, otherNaN} {
			h, code = impl.TakeLoop(g, x, bound)
			wantGraph(t, "TakeLoop with NaN, "+what, h, code, impl.PoseGraph{}, impl.ErrRange)
		}
	}
	full := fullGraph()
	each(badLinks(60), func(what string, x impl.Link) {
		refuse("full graph, "+what, full, x, impl.ErrRange)
		refuse(what, longChain(60), x, impl.ErrRange)
	})
	each(badLinks(3), func(what string, x impl.Link) { refuse(what, longChain(3), x, impl.ErrRange) })
	each(badLinks(1), func(what string, x impl.Link) { refuse(what, longChain(1), x, impl.ErrRange) })
	refuse("one too many", full, full.Links[0], impl.ErrLimit)
	refuse("one too many", full, linkOn(59, 0, 1e30, greatest), impl.ErrLimit)
}

// lostLink has a step that is off by NaN from the pose 0 of lostRow to the pose 1.
// That to the pose 2 is off by so much that it costs more than any finite number.
func lostLink(weight float32) impl.Link { return linkOn(0, 1, 0, weight) }
func farLink(weight float32) impl.Link  { return linkOn(0, 2, 0, weight) }

// lostRow has poses that are far away from each other.
func lostRow(list ...impl.Link) impl.PoseGraph {
	return rowOf(list, -greatest, greatest, -1e38, -greatest, -greatest)
}

func TestResiduals(t *testing.T) {
	g := rowOf(links(linkOn(0, 1, 1, 1), linkOn(2, 0, -2, 3), linkOn(0, 2, 1, 7)), 0, 1.5, 2)
	g.Links = append(g.Links, impl.Link{From: 1, To: 0, Step: impl.Pose{1, 2, 0}, Weight: 1}, impl.Link{From: 0, To: 1, Step: impl.Pose{1.5, 0, 0.25}, Weight: 1})
	for i, want := range []impl.Pose{{0.5, 0, 0}, {}, {1, 0, 0}, {-2.5, -2, 0}, {0, 0, -0.25}} {
		got, code := impl.ResidualOf(g, int64(i))
		wantPose(t, fmt.Sprint("ResidualOf ", i), got, want)
		wantCode(t, fmt.Sprint("ResidualOf ", i), code, impl.OK)
	}
	left := impl.PoseGraph{Poses: []impl.Pose{{1, 1, impl.Pi / 2}, {1, 3, impl.Pi}}, Links: links(impl.Link{From: 0, To: 1, Step: impl.Pose{2, 1, impl.Pi / 2}, Weight: 1})}
	got, code := impl.ResidualOf(left, 0)
	wantCode(t, "ResidualOf", code, impl.OK)
	wantNearPose(t, "ResidualOf, seen from the end of the step", got, impl.Pose{-1, 0, 0}, 1e-5)
	got, code = impl.ResidualOf(lostRow(lostLink(1)), 0)
	wantPose(t, "ResidualOf, NaN", got, impl.Pose{nan, nan, 0})
	wantCode(t, "ResidualOf, NaN", code, impl.OK)
	for _, g := range goodGraphs() {
		for _, k := range noIndices(len(g.Links)) {
			got, code = impl.ResidualOf(g, k)
			wantPose(t, fmt.Sprint("ResidualOf ", k), got, impl.Pose{})
			wantCode(t, fmt.Sprint("ResidualOf ", k), code, impl.ErrRange)
		}
	}
}

func wantCost(t *testing.T, what string, g impl.PoseGraph, want float32) {
	t.Helper()
	got, code := impl.CostOf(g)
	wantNumberCode(t, "CostOf, "+what, got, code, want, impl.OK)
}

func TestCosts(t *testing.T) {
	wantCost(t, "no links", rowOf(nil, 5), 0)
	wantCost(t, "no links", rowOf(nil, 5, 6, 7), 0)
	wantCost(t, "links that fit", fullGraph(), 0)
	wantCost(t, "a link", rowOf(links(linkOn(0, 1, 4, 3)), 5, 6), 27)
	wantCost(t, "a link back", rowOf(links(linkOn(1, 0, 4, 3)), 5, 6), 75)
	wantCost(t, "two links", rowOf(links(linkOn(0, 1, 4, 3), linkOn(1, 0, 1, 0.5)), 5, 6), 29)
	wantCost(t, "all three numbers", impl.PoseGraph{Poses: []impl.Pose{{}, {1, 2, 0.5}}, Links: links(linkOn(0, 1, 0, 4))}, 21)
	// The order of the sums: 2^24 and 1 make 2^24, but 1 and 1 and 2^24 make more.
	one, great := linkOn(0, 1, 1, 1), linkOn(0, 1, 1, 1<<24)
	wantCost(t, "the greatest one first", rowOf(links(great, one, one), 0, 0), 1<<24)
	wantCost(t, "the greatest one last", rowOf(links(one, one, great), 0, 0), 1<<24+2)
	wantCost(t, "the greatest one between", rowOf(links(one, great, one), 0, 0), 1<<24)
	// The sum of the squares is made first, which loses the second one.
	small := impl.Link{From: 0, To: 1, Step: impl.Pose{-1, -1.0 / 4096, 0}, Weight: 3}
	wantCost(t, "squares first", rowOf(links(small), 0, 0), 3)
	turned := impl.Link{From: 0, To: 1, Step: impl.Pose{0, 0, 1.0 / 8}, Weight: 64}
	wantCost(t, "a heading", rowOf(links(turned), 0, 0), 1)
	wantCost(t, "infinite", lostRow(linkOn(0, 3, 1, 1), farLink(1e-37), linkOn(0, 3, 1, 1)), infinite)
	wantCost(t, "infinite weights", rowOf(links(linkOn(0, 1, 1, greatest), linkOn(0, 1, 1, greatest)), 0, 0), infinite)
	wantCost(t, "NaN", lostRow(farLink(1), lostLink(tiniest), farLink(1)), nan)
	wantCost(t, "too small", rowOf(links(linkOn(0, 1, 1e-30, greatest)), 0, 0), 0)
}

func TestCostsAgain(t *testing.T) {
	d := &dice{seed: 211}
	kinds := map[string]int{}
	for range 4000 {
		g := d.anyGraph(12)
		want := costOfGraph(g)
		wantCost(t, startOf(g), g, want)
		for i, x := range g.Links {
			r, code := impl.ResidualOf(g, int64(i))
			wantPose(t, startOf("ResidualOf ", i, g), r, residualOf(g, x))
			wantCode(t, startOf("ResidualOf ", i, g), code, impl.OK)
		}
		worst, wanted := worstOf(g)
		got, code := impl.WorstLink(g)
		wantIndex(t, startOf("WorstLink ", g), got, code, worst, wanted)
		switch {
		case want != want:
			kinds["NaN"]++
		case !isFinite(want):
			kinds["infinite"]++
		case want == 0:
			kinds["0"]++
		default:
			kinds["more"]++
		}
	}
	if kinds["NaN"] < 50 || kinds["infinite"] < 200 || kinds["0"] < 200 || kinds["more"] < 1000 {
		t.Errorf("too few of a kind: %v", kinds)
	}
}

func wantWorst(t *testing.T, what string, g impl.PoseGraph, want int64) {
	t.Helper()
	got, code := impl.WorstLink(g)
	wantIndex(t, "WorstLink, "+what, got, code, want, impl.OK)
}

func TestWorstLinks(t *testing.T) {
	good, bad, worse := linkOn(0, 1, 1, 1), linkOn(0, 1, 2, 1), linkOn(0, 1, -2, 1)
	wantWorst(t, "one", rowOf(links(good), 0, 1), 0)
	wantWorst(t, "the first", rowOf(links(worse, bad, good), 0, 1), 0)
	wantWorst(t, "the second", rowOf(links(bad, worse, good), 0, 1), 1)
	wantWorst(t, "the last", rowOf(links(good, bad, worse), 0, 1), 2)
	wantWorst(t, "the first of several", rowOf(links(good, bad, worse, bad, worse, worse), 0, 1), 2)
	wantWorst(t, "all good", rowOf(links(good, good, good), 0, 1), 0)
	wantWorst(t, "all equally bad", rowOf(links(bad, bad, bad), 0, 1), 0)
	wantWorst(t, "by the weight", rowOf(links(worse, linkOn(0, 1, 2, 10), linkOn(0, 1, 2, 9)), 0, 1), 1)
	wantWorst(t, "by the size with the weight", rowOf(links(linkOn(0, 1, 3, 2), linkOn(0, 1, 4, 1), linkOn(0, 1, 2, 6)), 0, 1), 1)
	wantWorst(t, "by the heading", rowOf(links(good, impl.Link{From: 0, To: 1, Step: impl.Pose{1, 0, 3}, Weight: 1}, bad), 0, 1), 1)
	lost, far := lostLink(1), farLink(1)
	near := linkOn(0, 3, 0, 1)
	wantWorst(t, "NaN alone", lostRow(lost), 0)
	wantWorst(t, "NaN alone", lostRow(lost, lost, lost), 0)
	wantWorst(t, "NaN first, then 0", lostRow(lost, near), 1)
	wantWorst(t, "NaN first, then 0 twice", lostRow(lost, lost, near, near, lost), 2)
	wantWorst(t, "NaN behind 0", lostRow(near, lost, lost), 0)
	wantWorst(t, "NaN between", lostRow(near, lost, linkOn(3, 4, 1, 1), lost, near), 2)
	wantWorst(t, "infinite", lostRow(near, lost, far, lost, far), 2)
	wantWorst(t, "infinite ones first", lostRow(far, farLink(greatest), lost), 0)
	for _, g := range []impl.PoseGraph{rowOf(nil, 0), rowOf(nil, 0, 1), {Poses: make([]impl.Pose, 60), Links: []impl.Link{}}} {
		got, code := impl.WorstLink(g)
		wantIndex(t, "WorstLink, no links", got, code, 0, impl.ErrNotFound)
	}
}

func wantTaken(t *testing.T, what string, g impl.PoseGraph, x impl.Link, bound float32) {
	t.Helper()
	got, code := impl.TakeLoop(g, x, bound)
	wantGraph(t, fmt.Sprint("TakeLoop, bound ", bound, ", ", what), got, code, impl.PoseGraph{Poses: g.Poses, Links: append(slices.Clone(g.Links), x)}, impl.OK)
}

func wantNotTaken(t *testing.T, what string, g impl.PoseGraph, x impl.Link, bound float32) {
	t.Helper()
	got, code := impl.TakeLoop(g, x, bound)
	wantGraph(t, fmt.Sprint("TakeLoop, bound ", bound, ", ", what), got, code, impl.PoseGraph{}, impl.ErrProof)
}

func TestLoops(t *testing.T) {
	g := rowOf(links(linkOn(0, 1, 1, 1), linkOn(1, 2, 1, 1)), 0, 1, 2)
	for _, x := range []impl.Link{linkOn(0, 2, 5, 2), linkOn(0, 2, -1, 2), linkOn(2, 0, -5, 2), linkOn(2, 0, 1, 2)} { // off by 3, which costs 18
		wantTaken(t, "reached", g, x, 18)
		wantTaken(t, "more", g, x, 18.5)
		wantTaken(t, "infinite", g, x, infinite)
		wantNotTaken(t, "less", g, x, math.Nextafter32(18, 0))
		wantNotTaken(t, "much less", g, x, 9)
		wantNotTaken(t, "0", g, x, 0)
		wantNotTaken(t, "negative", g, x, -18)
		wantNotTaken(t, "negative", g, x, -infinite)
	}
	fits := linkOn(0, 2, 2, greatest)
	for _, bound := range []float32{0, minusZero, tiniest, greatest} {
		wantTaken(t, "a link that fits", g, fits, bound)
	}
	wantNotTaken(t, "a link that fits", g, fits, -tiniest)
	wantNotTaken(t, "a link that fits", g, fits, -infinite)
	costly := rowOf(links(linkOn(0, 1, 1e10, 5)), 0, 1, 2)
	wantTaken(t, "what other links cost does not count", costly, linkOn(0, 2, 1, 1), 1)
	wantTaken(t, "infinite, with an infinite bound", lostRow(), farLink(1), infinite)
	wantNotTaken(t, "infinite, with the greatest bound", lostRow(), farLink(1), greatest)
	for _, bound := range []float32{infinite, greatest, 0, -1, -infinite} {
		wantNotTaken(t, "NaN", lostRow(), lostLink(1), bound)
	}
}

func TestLoopsAgain(t *testing.T) {
	d := &dice{seed: 212}
	found := map[int64]int{}
	for range 4000 {
		g := d.anyGraph(8)
		if len(g.Poses) < 2 {
			continue
		}
		x := d.aLink(g.Poses, []float32{0, 0.1, 1, 1e20}[d.below(4)])
		want, wanted := impl.PoseGraph{Poses: g.Poses, Links: append(slices.Clone(g.Links), x)}, int64(impl.OK)
		cost := costOfLink(g, x)
		bound := []float32{0, 0.01, 1, 1e10, cost, math.Nextafter32(cost, 0)}[d.below(6)]
		if bound != bound {
			bound = infinite
		}
		if cost > bound || cost != cost {
			want, wanted = impl.PoseGraph{}, impl.ErrProof
		}
		got, code := impl.TakeLoop(g, x, bound)
		wantGraph(t, startOf("TakeLoop ", x, bound, g), got, code, want, wanted)
		found[code]++
	}
	if found[impl.OK] < 1000 || found[impl.ErrProof] < 500 {
		t.Errorf("too few of a kind: %v", found)
	}
}

// wantApart looks for the way back as well.
func wantApart(t *testing.T, what string, g impl.PoseGraph, a, b, want, wanted int64) {
	t.Helper()
	got, code := impl.LinksApart(g, a, b)
	wantIndex(t, fmt.Sprint("LinksApart ", a, " and ", b, ", ", what), got, code, want, wanted)
	got, code = impl.LinksApart(g, b, a)
	wantIndex(t, fmt.Sprint("LinksApart ", b, " and ", a, ", ", what), got, code, want, wanted)
}

func TestLinksApart(t *testing.T) {
	alone := rowOf(nil, 0, 1, 2)
	for a := range int64(3) {
		for b := range int64(3) {
			if a == b {
				wantApart(t, "itself", alone, a, b, 0, impl.OK)
			} else {
				wantApart(t, "no links", alone, a, b, 0, impl.ErrNotFound)
			}
		}
	}
	chain := longChain(60)
	for _, a := range []int64{0, 1, 30, 58, 59} {
		for b := range int64(60) {
			wantApart(t, "a chain", chain, a, b, max(a-b, b-a), impl.OK)
		}
	}
	ring := longChain(60)
	ring.Links = append(ring.Links, linkOn(59, 0, 1, 1))
	for b := range int64(60) {
		wantApart(t, "a ring", ring, 0, b, min(b, 60-b), impl.OK)
	}
	star := rowOf(nil, make([]float32, 60)...)
	for k := range int64(59) {
		star.Links = append(star.Links, linkOn(k+1, 0, 1, 1))
	}
	wantApart(t, "a star", star, 0, 59, 1, impl.OK)
	wantApart(t, "a star", star, 58, 59, 2, impl.OK)
	// The way that is found first is longer: 0, 1, 2, 3, 4 and 0, 5, 4.
	detour := rowOf(links(linkOn(0, 1, 1, 1), linkOn(1, 2, 1, 1), linkOn(2, 3, 1, 1), linkOn(3, 4, 1, 1), linkOn(5, 0, 1, 1), linkOn(4, 5, 1, 1)), 0, 1, 2, 3, 4, 5)
	wantApart(t, "a detour", detour, 0, 4, 2, impl.OK)
	wantApart(t, "a detour", detour, 0, 3, 3, impl.OK)
	wantApart(t, "a detour", detour, 1, 5, 2, impl.OK)
	two := rowOf(links(linkOn(0, 1, 1, 1), linkOn(3, 2, 1, 1), linkOn(1, 0, 1, 1), linkOn(0, 1, 1, 9)), 0, 1, 2, 3)
	wantApart(t, "two parts", two, 0, 1, 1, impl.OK)
	wantApart(t, "two parts", two, 2, 3, 1, impl.OK)
	wantApart(t, "two parts", two, 0, 2, 0, impl.ErrNotFound)
	wantApart(t, "two parts", two, 1, 3, 0, impl.ErrNotFound)
	for _, g := range goodGraphs() {
		for _, k := range noIndices(len(g.Poses)) {
			for _, a := range []int64{0, int64(len(g.Poses)) - 1, k, -1, math.MaxInt64} {
				wantApart(t, "no pose", g, a, k, 0, impl.ErrRange)
			}
		}
	}
}

func TestLinksApartAgain(t *testing.T) {
	d := &dice{seed: 213}
	found := map[int64]int{}
	for range 400 {
		var g impl.PoseGraph
		for range 2 + d.below(59) {
			g.Poses = append(g.Poses, on(d.whole(5)))
		}
		for range d.below(min(120, 2*len(g.Poses)) + 1) {
			g.Links = append(g.Links, d.aLink(g.Poses, 0))
		}
		for range 20 {
			a, b := int64(d.below(len(g.Poses))), int64(d.below(len(g.Poses)))
			want, wanted := apartIn(g, a, b), int64(impl.OK)
			if want < 0 {
				want, wanted = 0, impl.ErrNotFound
			}
			wantApart(t, startOf(g.Links), g, a, b, want, wanted)
			found[wanted]++
		}
	}
	if found[impl.OK] < 1000 || found[impl.ErrNotFound] < 1000 {
		t.Errorf("too few of a kind: %v", found)
	}
}
