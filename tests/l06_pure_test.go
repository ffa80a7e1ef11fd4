package tests

import (
	"fmt"
	"math"
	"slices"
	"strings"
	"testing"

	"loop.example/g01204/impl"
)

// poseArguments has something for every function of chapter 6.
type poseArguments struct {
	g, h          impl.PoseGraph
	x             impl.Link
	p, q          impl.Pose
	steps         []impl.Pose
	weight, bound float32
	a, b, sweeps  int64
	text          string
}

// answers calls every function and writes all results, numbers by their bits.
// What is returned is overwritten then, as far as it has room.
func (k *poseArguments) answers() string {
	var out strings.Builder
	add := func(list ...any) { fmt.Fprintln(&out, list...) }
	poses := func(list []impl.Pose, code int64) {
		add(len(list), code)
		for i, p := range list[:cap(list)] {
			if i < len(list) {
				add(bitsOf(p[:]...))
			}
			list[:cap(list)][i] = impl.Pose{77, 78, 79}
		}
	}
	graph := func(g impl.PoseGraph, code int64) {
		poses(g.Poses, code)
		for i, x := range g.Links[:cap(g.Links)] {
			if i < len(g.Links) {
				add(x.From, x.To, bitsOf(x.Step[:]...), bitsOf(x.Weight))
			}
			g.Links[:cap(g.Links)][i] = linkOn(75, 76, 77, 78)
		}
	}
	counted := func(g impl.PoseGraph, count, code int64) {
		add(count)
		graph(g, code)
	}
	pose := func(p impl.Pose, code int64) { add(bitsOf(p[:]...), code) }
	add(impl.IsFinitePose(k.p), impl.SamePose(k.p, k.q), impl.ValidGraph(k.g), impl.SameGraph(k.g, k.h))
	pose(impl.ComposePoses(k.p, k.q), 0)
	pose(impl.BackPose(k.p), 0)
	pose(impl.StepBetween(k.p, k.q), 0)
	at := impl.PointAt(k.p, [2]float32{k.q[0], k.q[1]})
	add(bitsOf(at[:]...))
	poses(impl.ReckonPoses(k.p, k.steps))
	graph(impl.ChainGraph(k.p, k.steps, k.weight))
	graph(impl.AddLink(k.g, k.x))
	graph(impl.TakeLoop(k.g, k.x, k.bound))
	graph(impl.TakeLoop(k.g, k.x, infinite))
	pose(impl.ResidualOf(k.g, k.a))
	cost, code := impl.CostOf(k.g)
	add(bitsOf(cost), code)
	counted(impl.SweepOnce(k.g))
	counted(impl.RelaxGraph(k.g, k.sweeps))
	counted(impl.RelaxGraph(k.g, 0))
	add(impl.LinksApart(k.g, k.a, k.b))
	add(impl.WorstLink(k.g))
	add(impl.GraphText(k.g))
	graph(impl.ReadPoseGraph(k.text))
	return out.String()
}

// withRoom returns a copy whose slices have room behind them.
func (k *poseArguments) withRoom() poseArguments {
	j := *k
	for _, g := range []*impl.PoseGraph{&j.g, &j.h} {
		g.Poses, g.Links = roomy(g.Poses, on(55)), roomy(g.Links, linkOn(1, 2, 3, 4))
	}
	j.steps = roomy(k.steps, on(66))
	return j
}

// all writes the slices, with the room behind them.
func (k *poseArguments) all() string {
	graph := func(g impl.PoseGraph) string {
		return fmt.Sprint(g.Poses[:len(g.Poses)+3], g.Links[:len(g.Links)+3])
	}
	return graph(k.g) + graph(k.h) + fmt.Sprint(k.steps[:len(k.steps)+3])
}

// anyPosing returns arguments of which some are not valid.
func (d *dice) anyPosing() poseArguments {
	of := d.places()
	k := poseArguments{g: d.anyGraph(8), h: d.anyGraph(8), p: d.aPose(of), q: d.aPose(of), weight: d.weight(), sweeps: int64(d.below(6))}
	for range d.below(12) {
		k.steps = append(k.steps, d.aPose(of))
	}
	k.a, k.b = int64(d.below(len(k.g.Poses))), int64(d.below(len(k.g.Poses)))
	k.x, k.bound = linkOn(k.a, k.b, d.whole(3), 1), d.whole(5)
	k.text = rawGraphText(k.h)
	if d.below(2) == 0 {
		k.h = cloneOf(k.g)
	}
	switch d.below(12) {
	case 0:
		list := badGraphs()
		k.g = list[d.below(len(list))]
	case 1:
		list := badGraphs()
		k.h = list[d.below(len(list))]
	case 2:
		list := badLinks(2)
		k.x = list[d.below(len(list))]
	case 3:
		k.p, k.q, k.weight, k.bound = impl.Pose(vecFrom(d.any)), impl.Pose(vecFrom(d.any)), d.any(), d.any()
	case 4:
		k.steps, k.text = slices.Repeat(k.steps, 9), k.text[:d.below(len(k.text))]
	case 5:
		k.a, k.b, k.sweeps = noIndices(8)[d.below(7)], noIndices(8)[d.below(7)], noIndices(51)[d.below(7)]
	}
	return k
}

func TestEqualGraphsHaveEqualResults(t *testing.T) {
	d := &dice{seed: 240}
	list := make([]poseArguments, 1500)
	first := make([]string, len(list))
	for i := range list {
		list[i] = d.anyPosing()
		first[i] = list[i].answers()
	}
	for i := len(list) - 1; i >= 0; i-- { // in another order, so that a state that is kept would be seen
		k := list[i].withRoom()
		before := k.all()
		if got := k.answers(); got != first[i] {
			t.Fatalf("other results for equal arguments:\n%s\n%s", first[i], got)
		}
		if after := k.all(); after != before {
			t.Fatalf("an argument was modified, or what lies behind it:\n%s\n%s", before, after)
		}
	}
}

// TestEverySpecialNumberOfGraphs puts each special number into each place: nothing may panic.
func TestEverySpecialNumberOfGraphs(t *testing.T) {
	d := &dice{seed: 241}
	for _, a := range specials() {
		for i := range 3 {
			for range 3 {
				k := d.anyPosing()
				k.p[i], k.q[2-i], k.weight, k.bound = a, a, a, a
				k.answers()
				k.x.Step[i], k.x.Weight = a, a
				k.steps = append(k.steps, on(1), on(2))
				k.steps[1][i] = a
				k.answers()
				k.g = rowOf(links(linkOn(0, 1, 1, 1), linkOn(1, 2, 1, 1), linkOn(0, 2, 3, 1)), 0, 1, 2)
				k.g.Poses[1][i] = a
				k.answers()
				k.g.Poses[0][i], k.g.Poses[1][i] = a, 1
				k.answers()
				k.g.Poses[0][i], k.g.Links[1].Step[i] = 0, a
				k.answers()
				k.g.Links[1].Weight, k.g.Links[2].Weight = a, a
				k.answers()
			}
		}
	}
}

// TestEveryGreatIndex puts integers that a careless program takes for indices into each place.
func TestEveryGreatIndex(t *testing.T) {
	d := &dice{seed: 242}
	for _, a := range []int64{0, 1, 2, 3, 59, 60, -1, 1 << 32, 1<<32 + 1, math.MaxInt64, math.MinInt64, math.MaxInt32} {
		for _, b := range []int64{0, 2, 60, -1, 1 << 32, math.MaxInt64, math.MinInt64} {
			k := d.anyPosing()
			k.g = fullGraph()
			k.g.Links = k.g.Links[:100]
			k.a, k.b, k.sweeps, k.x.From, k.x.To = a, b, 0, a, b
			k.answers()
			k.g = longChain(3)
			k.sweeps = a
			k.g.Links[0].From, k.g.Links[1].To = a, b
			k.text = rawGraphText(k.g)
			k.answers()
		}
	}
}

// TestLongGraphs has lists of many elements.
func TestLongGraphs(t *testing.T) {
	k := (&dice{seed: 243}).anyPosing()
	k.g, k.steps = longChain(150000), make([]impl.Pose, 300000)
	k.h, k.text = cloneOf(k.g), rawGraphText(k.g)
	first := k.answers()
	wantBool(t, "equal results", k.answers() == first, true)
	wantBool(t, "SameGraph of very long graphs", impl.SameGraph(k.g, k.h), true)
	k.h.Links[149998].Weight = 2
	wantBool(t, "SameGraph of very long graphs", impl.SameGraph(k.g, k.h), false)
	_, code := impl.AddLink(k.g, linkOn(0, 1, 1, 1))
	wantCode(t, "AddLink of very long graphs", code, impl.ErrInvalid)
	_, code = impl.ReadPoseGraph(k.text)
	wantCode(t, "ReadPoseGraph of a long text", code, impl.ErrRange)
	_, code = impl.ReckonPoses(impl.Pose{}, k.steps)
	wantCode(t, "ReckonPoses of many steps", code, impl.ErrLimit)
	k.steps[299999][2] = nan
	_, code = impl.ChainGraph(impl.Pose{}, k.steps, 1)
	wantCode(t, "ChainGraph of many steps", code, impl.ErrRange)
}
