package tests

import (
	"fmt"
	"math"
	"slices"
	"strings"
	"testing"

	"loop.example/g01204/impl"
)

// Chapter 6 reckoned once more: graphs stay lists, all costs are reckoned anew for
// each pose, and ways are found by making them shorter, with the operations that
// are rounded in numbers_test.go and the angles in l02_angles_test.go.

// knownTurns has the cosines and sines that have been reckoned already, by the
// bits of their angles: the great numbers of which they are made are slow.
var knownTurns = map[uint32][2]float32{}

// cosineAndSine returns both for an angle.
func cosineAndSine(angle float32) (float32, float32) {
	bits := math.Float32bits(angle)
	known, ok := knownTurns[bits]
	if !ok {
		known = [2]float32{cosineOf(angle), sineOf(angle)}
		knownTurns[bits] = known
	}
	return known[0], known[1]
}

func samePose(p, q impl.Pose) bool { return sameVec(impl.Vec(p), impl.Vec(q)) }

func composed(p, q impl.Pose) impl.Pose {
	c, s := cosineAndSine(p[2])
	ahead := difference(product(c, q[0]), product(s, q[1]))
	aside := sum(product(s, q[0]), product(c, q[1]))
	return impl.Pose{sum(p[0], ahead), sum(p[1], aside), wrapOf(sum(p[2], q[2]))}
}

func backOf(p impl.Pose) impl.Pose {
	c, s := cosineAndSine(p[2])
	ahead := sum(product(c, p[0]), product(s, p[1]))
	aside := difference(product(s, p[0]), product(c, p[1]))
	return impl.Pose{difference(0, ahead), aside, wrapOf(difference(0, p[2]))}
}

func stepOver(p, q impl.Pose) impl.Pose {
	c, s := cosineAndSine(p[2])
	dx, dy := difference(q[0], p[0]), difference(q[1], p[1])
	ahead := sum(product(c, dx), product(s, dy))
	aside := difference(product(c, dy), product(s, dx))
	return impl.Pose{ahead, aside, wrapOf(difference(q[2], p[2]))}
}

func reckoned(start impl.Pose, steps []impl.Pose) ([]impl.Pose, int64) {
	for _, p := range append([]impl.Pose{start}, steps...) {
		if !finiteNumbers(p[:]...) {
			return nil, impl.ErrRange
		}
	}
	if len(steps) > 59 {
		return nil, impl.ErrLimit
	}
	poses := []impl.Pose{start}
	for _, step := range steps {
		start = composed(start, step)
		if !finiteNumbers(start[:]...) {
			return nil, impl.ErrState
		}
		poses = append(poses, start)
	}
	return poses, impl.OK
}

func validLink(g impl.PoseGraph, x impl.Link) bool {
	for _, i := range []int64{x.From, x.To} {
		if i < 0 || i > int64(len(g.Poses))-1 {
			return false
		}
	}
	return x.From != x.To && finiteNumbers(x.Step[:]...) && positive(x.Weight)
}

func validGraph(g impl.PoseGraph) bool {
	if len(g.Poses) == 0 || len(g.Poses) >= 61 || len(g.Links) >= 121 {
		return false
	}
	for _, p := range g.Poses {
		if !finiteNumbers(p[:]...) {
			return false
		}
	}
	return !slices.ContainsFunc(g.Links, func(x impl.Link) bool { return !validLink(g, x) })
}

func sameLink(x, y impl.Link) bool {
	return x.From == y.From && x.To == y.To && samePose(x.Step, y.Step) && same(x.Weight, y.Weight)
}

func sameGraph(g, h impl.PoseGraph) bool {
	if len(g.Poses) != len(h.Poses) || len(g.Links) != len(h.Links) {
		return false
	}
	for i := range g.Poses {
		if !samePose(g.Poses[i], h.Poses[i]) {
			return false
		}
	}
	for i := range g.Links {
		if !sameLink(g.Links[i], h.Links[i]) {
			return false
		}
	}
	return true
}

// cloneOf returns a graph that shares nothing with g.
func cloneOf(g impl.PoseGraph) impl.PoseGraph {
	return impl.PoseGraph{Poses: slices.Clone(g.Poses), Links: slices.Clone(g.Links)}
}

// residualOf returns what a link is off in a graph, which need not have it.
func residualOf(g impl.PoseGraph, x impl.Link) impl.Pose {
	return stepOver(x.Step, stepOver(g.Poses[x.From], g.Poses[x.To]))
}

func costOfLink(g impl.PoseGraph, x impl.Link) float32 {
	r := residualOf(g, x)
	return product(x.Weight, along(0, 2, func(i int) float32 { return product(r[i], r[i]) }))
}

func costOfGraph(g impl.PoseGraph) float32 {
	var all float32
	for _, x := range g.Links {
		all = sum(all, costOfLink(g, x))
	}
	return all
}

// toldOf returns the poses that the links at the pose i tell, and their weights.
func toldOf(g impl.PoseGraph, i int64) ([]impl.Pose, []float32) {
	var told []impl.Pose
	var weights []float32
	for _, x := range g.Links {
		if x.To == i {
			told = append(told, composed(g.Poses[x.From], x.Step))
		}
		if x.From == i {
			told = append(told, composed(g.Poses[x.To], backOf(x.Step)))
		}
		if x.From == i || x.To == i {
			weights = append(weights, x.Weight)
		}
	}
	return told, weights
}

// movedPose returns what the pose i becomes in a sweep, whatever that costs.
func movedPose(g impl.PoseGraph, i int) impl.Pose {
	old := g.Poses[i]
	told, weights := toldOf(g, int64(i))
	last := len(told) - 1
	if last < 0 {
		return old
	}
	w := along(0, last, func(k int) float32 { return weights[k] })
	mean := func(of func(p impl.Pose) float32) float32 {
		return quotient(along(0, last, func(k int) float32 { return product(weights[k], of(told[k])) }), w)
	}
	turn := mean(func(p impl.Pose) float32 { return wrapOf(difference(p[2], old[2])) })
	return impl.Pose{
		mean(func(p impl.Pose) float32 { return p[0] }),
		mean(func(p impl.Pose) float32 { return p[1] }),
		wrapOf(sum(old[2], turn)),
	}
}

// sweptGraph returns how many poses are changed, and how many are not though the
// links tell something else, as well.
func sweptGraph(g impl.PoseGraph) (impl.PoseGraph, int64, int64) {
	g = cloneOf(g)
	changed, refused := int64(0), int64(0)
	for i := 1; i < len(g.Poses); i++ {
		old, before := g.Poses[i], costOfGraph(g)
		g.Poses[i] = movedPose(g, i)
		switch after := costOfGraph(g); {
		case finiteNumbers(g.Poses[i][:]...) && after < before:
			changed++
		case samePose(g.Poses[i], old):
		default:
			refused++
			g.Poses[i] = old
		}
	}
	return g, changed, refused
}

func relaxedGraph(g impl.PoseGraph, sweeps int64) (impl.PoseGraph, int64) {
	g = cloneOf(g)
	for made := int64(1); made <= sweeps; made++ {
		next, changed, _ := sweptGraph(g)
		if changed == 0 {
			return g, made
		}
		g = next
	}
	return g, sweeps
}

// apartIn returns how many links two poses are apart, or -1.
func apartIn(g impl.PoseGraph, a, b int64) int64 {
	const far = 1000
	away := make([]int64, len(g.Poses))
	for i := range away {
		away[i] = far
	}
	away[a] = 0
	for range g.Poses {
		for _, x := range g.Links {
			away[x.From] = min(away[x.From], away[x.To]+1)
			away[x.To] = min(away[x.To], away[x.From]+1)
		}
	}
	if away[b] == far {
		return -1
	}
	return away[b]
}

// worstOf returns the link that none is worse than, the first one of several.
func worstOf(g impl.PoseGraph) (int64, int64) {
	rank := func(x impl.Link) float32 {
		if cost := costOfLink(g, x); cost == cost {
			return cost
		}
		return -1
	}
	for i, x := range g.Links {
		if !slices.ContainsFunc(g.Links, func(y impl.Link) bool { return rank(y) > rank(x) }) {
			return int64(i), impl.OK
		}
	}
	return 0, impl.ErrNotFound
}

// rawGraphText writes a graph as GraphText does, valid or not.
func rawGraphText(g impl.PoseGraph) string {
	numbers := func(list ...float32) string {
		var out strings.Builder
		for _, a := range list {
			if a != a {
				a = nan
			}
			fmt.Fprintf(&out, " %08x", math.Float32bits(a))
		}
		return out.String()
	}
	var out strings.Builder
	out.WriteString("graph\n")
	for _, p := range g.Poses {
		fmt.Fprintf(&out, "pose%s\n", numbers(p[:]...))
	}
	for _, x := range g.Links {
		fmt.Fprintf(&out, "link %d %d%s%s\n", x.From, x.To, numbers(x.Step[:]...), numbers(x.Weight))
	}
	return out.String()
}

// aPose returns a pose whose place is made of numbers of one kind.
func (d *dice) aPose(of func() float32) impl.Pose {
	p := impl.Pose{of(), of(), d.unit() * 4}
	switch d.below(6) {
	case 0:
		p[2] = d.zero()
	case 1:
		p[2] = float32(float64(d.whole(8)) * wideTurn / 8)
	case 2:
		for p[2] = d.anAngle(); !isFinite(p[2]); {
			p[2] = d.anAngle()
		}
	}
	return p
}

// places returns what makes finite numbers of one kind.
func (d *dice) places() func() float32 {
	switch d.below(6) {
	case 0, 1:
		return func() float32 { return d.whole(5) }
	case 2:
		by := float32(math.Ldexp(1, d.below(120)-60))
		return func() float32 { return d.unit() * by }
	case 3:
		return d.often(d.finite)
	}
	return func() float32 { return d.unit() * 5 }
}

// aLink returns a link between two of so many poses, two at least, that is off by
// as much as shake tells.
func (d *dice) aLink(poses []impl.Pose, shake float32) impl.Link {
	from := d.below(len(poses))
	to := (from + 1 + d.below(len(poses)-1)) % len(poses)
	x := impl.Link{From: int64(from), To: int64(to), Step: stepOver(poses[from], poses[to]), Weight: d.weight()}
	if d.below(3) > 0 {
		x.Weight = []float32{1, 2, 0.5, 3}[d.below(4)]
	}
	for i := range x.Step {
		x.Step[i] = held(sum(x.Step[i], product(shake, d.unit())))
		if x.Step[i] != x.Step[i] {
			x.Step[i] = d.zero()
		}
	}
	return x
}

// aGraph returns a valid graph with at most so many poses, whose links are off by
// nothing, by little or by much. Some of its poses have no links.
func (d *dice) aGraph(most int) impl.PoseGraph {
	of := d.places()
	var g impl.PoseGraph
	for range 1 + d.below(most) {
		g.Poses = append(g.Poses, d.aPose(of))
	}
	if len(g.Poses) == 1 {
		return g
	}
	shake := []float32{0, 0.01, 0.3, 1, 5, 1e20}[d.below(6)]
	for range d.below(2*len(g.Poses) + 1) {
		g.Links = append(g.Links, d.aLink(g.Poses, shake))
	}
	return g
}

// aMess returns a valid graph whose numbers are of any kind, some of them so great
// that sums and differences are not finite.
func (d *dice) aMess(most int) impl.PoseGraph {
	g := d.aGraph(most)
	for i := range g.Poses {
		switch d.below(6) {
		case 0, 1:
			g.Poses[i] = impl.Pose(vecFrom(d.finite))
		case 2:
			list := []float32{greatest, -greatest, 0, 1e20}
			g.Poses[i] = impl.Pose{list[d.below(4)], list[d.below(4)], d.zero()}
		}
	}
	for i := range g.Links {
		if d.below(3) == 0 {
			g.Links[i].Step = impl.Pose(vecFrom(d.finite))
		}
	}
	return g
}

// anyGraph returns a graph of one of both kinds.
func (d *dice) anyGraph(most int) impl.PoseGraph {
	if d.below(3) == 0 {
		return d.aMess(most)
	}
	return d.aGraph(most)
}

// on is the pose at x on the first axis, with the heading 0.
func on(x float32) impl.Pose { return impl.Pose{x, 0, 0} }

// linkOn is a link whose step is one along the first axis.
func linkOn(from, to int64, x, weight float32) impl.Link {
	return impl.Link{From: from, To: to, Step: on(x), Weight: weight}
}

// rowOf returns the graph of poses on the first axis.
func rowOf(links []impl.Link, places ...float32) impl.PoseGraph {
	g := impl.PoseGraph{Links: links}
	for _, x := range places {
		g.Poses = append(g.Poses, on(x))
	}
	return g
}

// links lists links.
func links(list ...impl.Link) []impl.Link { return list }

// longChain returns so many poses on the first axis, each one linked to the next.
func longChain(count int) impl.PoseGraph {
	var g impl.PoseGraph
	for k := range count {
		g.Poses = append(g.Poses, on(float32(k)))
		if k > 0 {
			g.Links = append(g.Links, linkOn(int64(k-1), int64(k), 1, 1))
		}
	}
	return g
}

// fullGraph has as many poses and links as there may be.
func fullGraph() impl.PoseGraph {
	g := longChain(60)
	for k := int64(0); len(g.Links) < 120; k++ {
		x := linkOn(k%60, (k+3)%60, 3, 1)
		if x.To < x.From {
			x.Step[0] = -57
		}
		g.Links = append(g.Links, x)
	}
	return g
}

// badPoses returns poses that are not finite.
func badPoses() []impl.Pose {
	var list []impl.Pose
	for i := range 3 {
		for _, a := range []float32{infinite, -infinite, nan, otherNaN} {
			p := impl.Pose{1, 2, 3}
			p[i] = a
			list = append(list, p)
		}
	}
	return list
}

// badLinks returns links that are not valid for so many poses, each one for a
// reason of its own.
func badLinks(poses int64) []impl.Link {
	var list []impl.Link
	put := func(change func(x *impl.Link)) {
		x := linkOn(0, poses-1, 1, 1)
		change(&x)
		list = append(list, x)
	}
	for _, k := range []int64{-1, poses, poses + 1, math.MinInt64, math.MaxInt64, 1 << 32, -1 << 32} {
		put(func(x *impl.Link) { x.From = k })
		put(func(x *impl.Link) { x.To = k })
		put(func(x *impl.Link) { x.From, x.To = k, k })
	}
	for k := range min(poses, 3) {
		put(func(x *impl.Link) { x.From, x.To = k, k })
	}
	for _, p := range badPoses() {
		put(func(x *impl.Link) { x.Step = p })
	}
	for _, a := range badSides() {
		put(func(x *impl.Link) { x.Weight = a })
	}
	return list
}

// badGraphs returns graphs that are not valid, each one for a reason of its own.
func badGraphs() []impl.PoseGraph {
	good := linkOn(0, 2, 1, 1)
	list := []impl.PoseGraph{{}, {Links: links(good)}, longChain(61), rowOf(links(good), 0, 1), rowOf(links(good), 0)}
	long := fullGraph()
	long.Links = append(long.Links, good)
	list = append(list, long, impl.PoseGraph{Poses: make([]impl.Pose, 61)}, rowOf(make([]impl.Link, 121), 0, 1))
	for _, p := range badPoses() {
		for i := range 3 {
			g := rowOf(links(good), 0, 1, 2)
			g.Poses[i] = p
			list = append(list, g)
		}
		list = append(list, impl.PoseGraph{Poses: []impl.Pose{p}})
	}
	for _, x := range badLinks(3) {
		list = append(list, rowOf(links(x), 0, 1, 2), rowOf(links(good, x), 0, 1, 2), rowOf(links(x, good), 0, 1, 2))
	}
	return list
}

// noIndices returns numbers that are no indices of a list with so many elements.
func noIndices(count int) []int64 {
	n := int64(count)
	return []int64{-1, n, n + 1, math.MinInt64, math.MaxInt64, 1 << 32, -1 << 32}
}

func wantPose(t *testing.T, what string, got, want impl.Pose) {
	t.Helper()
	wantVec(t, what, impl.Vec(got), impl.Vec(want))
}

func wantNearPose(t *testing.T, what string, got, want impl.Pose, bound float32) {
	t.Helper()
	if !impl.AreNear(impl.Vec(got), impl.Vec(want), bound) {
		t.Errorf("%s: got %v, want nearly %v", what, got, want)
	}
}

func wantPoses(t *testing.T, what string, got []impl.Pose, code int64, want []impl.Pose, wanted int64) {
	t.Helper()
	if !slices.EqualFunc(got, want, samePose) {
		t.Errorf("%s: got %s, want %s", what, startOf(got), startOf(want))
	}
	wantCode(t, what, code, wanted)
}

func wantGraph(t *testing.T, what string, got impl.PoseGraph, code int64, want impl.PoseGraph, wanted int64) {
	t.Helper()
	if !sameGraph(got, want) {
		t.Errorf("%s: got %s, want %s", what, startOf(got), startOf(want))
	}
	wantCode(t, what, code, wanted)
}

func wantIndex(t *testing.T, what string, got, code, want, wanted int64) {
	t.Helper()
	if got != want {
		t.Errorf("%s: got %d, want %d", what, got, want)
	}
	wantCode(t, what, code, wanted)
}
