package tests

import (
	"fmt"
	"math"
	"slices"
	"testing"

	"loop.example/g01204/impl"
)

func TestExampleOfChapter6(t *testing.T) {
	wantPose(t, "ComposePoses", impl.ComposePoses(impl.Pose{1, 2, 0}, impl.Pose{3, 4, 0}), impl.Pose{4, 6, 0})
	wantPose(t, "StepBetween", impl.StepBetween(impl.Pose{1, 2, 0}, impl.Pose{4, 6, 0}), impl.Pose{3, 4, 0})
	g, code := impl.ChainGraph(impl.Pose{}, []impl.Pose{{1, 0, 0}, {1, 0, 0}}, 1)
	wantGraph(t, "ChainGraph", g, code, rowOf(links(linkOn(0, 1, 1, 1), linkOn(1, 2, 1, 1)), 0, 1, 2), impl.OK)
	cost, code := impl.CostOf(g)
	wantNumberCode(t, "CostOf", cost, code, 0, impl.OK)
	g, code = impl.AddLink(g, linkOn(0, 2, 1, 1))
	wantCode(t, "AddLink", code, impl.OK)
	cost, code = impl.CostOf(g)
	wantNumberCode(t, "CostOf", cost, code, 1, impl.OK)
	apart, code := impl.LinksApart(g, 0, 2)
	wantIndex(t, "LinksApart", apart, code, 1, impl.OK)
}

func TestLimitsOfChapter6(t *testing.T) {
	wantBool(t, "limits", impl.MaxPoses == 60 && impl.MaxLinks == 120 && impl.MaxSweeps == 50 && impl.MaxGraphText == 20000, true)
}

func TestPosesAsNumbers(t *testing.T) {
	wantBool(t, "IsFinitePose", impl.IsFinitePose(impl.Pose{greatest, -greatest, tiniest}), true)
	wantBool(t, "SamePose", impl.SamePose(impl.Pose{nan, 0, minusZero}, impl.Pose{otherNaN, 0, minusZero}), true)
	for i := range 3 {
		for _, a := range specials() {
			p := impl.Pose{1, 2, 3}
			p[i] = a
			wantBool(t, fmt.Sprint("IsFinitePose ", p), impl.IsFinitePose(p), isFinite(a))
			for _, b := range specials() {
				q := impl.Pose{1, 2, 3}
				q[i] = b
				wantBool(t, fmt.Sprint("SamePose ", p, q), impl.SamePose(p, q), same(a, b))
			}
		}
	}
}

// TestPosesStraightAhead has the heading 0, so that all numbers are exact.
func TestPosesStraightAhead(t *testing.T) {
	compose := func(p, q, want impl.Pose) {
		t.Helper()
		wantPose(t, fmt.Sprint("ComposePoses ", p, q), impl.ComposePoses(p, q), want)
	}
	compose(impl.Pose{}, impl.Pose{}, impl.Pose{})
	compose(impl.Pose{5, -7, 0}, impl.Pose{}, impl.Pose{5, -7, 0})
	compose(impl.Pose{}, impl.Pose{5, -7, 1}, impl.Pose{5, -7, 1})
	compose(impl.Pose{1, 2, 0}, impl.Pose{3, 4, -0.5}, impl.Pose{4, 6, -0.5})
	compose(impl.Pose{minusZero, minusZero, minusZero}, impl.Pose{minusZero, minusZero, minusZero}, impl.Pose{0, minusZero, 0})
	compose(impl.Pose{minusZero, 0, 0}, impl.Pose{minusZero, 1, 0}, impl.Pose{minusZero, 1, 0})
	compose(impl.Pose{1 << 24, 1, 0}, impl.Pose{1, 1 << 24, 0}, impl.Pose{1 << 24, 1 << 24, 0})
	compose(impl.Pose{greatest, 0, 0}, impl.Pose{greatest, -greatest, 0}, impl.Pose{infinite, -greatest, 0})
	back := func(p, want impl.Pose) {
		t.Helper()
		wantPose(t, fmt.Sprint("BackPose ", p), impl.BackPose(p), want)
	}
	back(impl.Pose{}, impl.Pose{})
	back(impl.Pose{1, 0, 0}, impl.Pose{-1, 0, 0})
	back(impl.Pose{3, -4, 0}, impl.Pose{-3, 4, 0})
	back(impl.Pose{minusZero, minusZero, minusZero}, impl.Pose{0, 0, 0})
	back(impl.Pose{minusZero, 0, 0}, impl.Pose{0, minusZero, 0})
	back(impl.Pose{0, 1, 0}, impl.Pose{0, -1, 0})
	between := func(p, q, want impl.Pose) {
		t.Helper()
		wantPose(t, fmt.Sprint("StepBetween ", p, q), impl.StepBetween(p, q), want)
	}
	between(impl.Pose{}, impl.Pose{}, impl.Pose{})
	between(impl.Pose{1, 2, 0}, impl.Pose{4, 6, 0}, impl.Pose{3, 4, 0})
	between(impl.Pose{4, 6, 0}, impl.Pose{1, 2, 0}, impl.Pose{-3, -4, 0})
	between(impl.Pose{4, 6, 0}, impl.Pose{4, 6, 0.25}, impl.Pose{0, 0, 0.25})
	between(impl.Pose{0, 0, 0}, impl.Pose{minusZero, minusZero, minusZero}, impl.Pose{minusZero, 0, 0})
	between(impl.Pose{0, 0, 0}, impl.Pose{0, minusZero, 0}, impl.Pose{0, minusZero, 0})
	between(impl.Pose{0, 1, 0}, impl.Pose{minusZero, 0, 0}, impl.Pose{minusZero, -1, 0})
	between(impl.Pose{-greatest, 0, 0}, impl.Pose{greatest, 0, 0}, impl.Pose{infinite, nan, 0})
}

// TestPosesWithHeadings has whole quarters of a turn, nearly.
func TestPosesWithHeadings(t *testing.T) {
	const quarter = impl.Pi / 2
	wantNearPose(t, "ComposePoses to the left", impl.ComposePoses(impl.Pose{1, 2, quarter}, impl.Pose{3, 4, 1.5}), impl.Pose{-3, 5, quarter + 1.5}, 1e-5)
	wantNearPose(t, "ComposePoses to the right", impl.ComposePoses(impl.Pose{1, 2, -quarter}, impl.Pose{3, 4, 0.25}), impl.Pose{5, -1, 0.25 - quarter}, 1e-5)
	wantNearPose(t, "ComposePoses with a turn more", impl.ComposePoses(impl.Pose{1, 2, 3}, impl.Pose{0, 0, 3}), impl.Pose{1, 2, 6 - 2*impl.Pi}, 1e-5)
	wantNearPose(t, "BackPose", impl.BackPose(impl.Pose{1, 2, quarter}), impl.Pose{-2, 1, -quarter}, 1e-5)
	wantNearPose(t, "BackPose of a great heading", impl.BackPose(impl.Pose{0, 0, 7}), impl.Pose{0, 0, 2*impl.Pi - 7}, 1e-5)
	wantNearPose(t, "StepBetween", impl.StepBetween(impl.Pose{1, 2, quarter}, impl.Pose{4, 6, 0}), impl.Pose{4, -3, -quarter}, 1e-5)
	wantNearPose(t, "StepBetween with a turn less", impl.StepBetween(impl.Pose{1, 2, -3}, impl.Pose{1, 2, 3}), impl.Pose{0, 0, 6 - 2*impl.Pi}, 1e-5)
	at := impl.PointAt(impl.Pose{1, 2, quarter}, [2]float32{3, 4})
	wantNearPose(t, "PointAt", impl.Pose{at[0], at[1]}, impl.Pose{-3, 5, 0}, 1e-5)
	half := math.Float32frombits(0xc0490fda) // a narrow Pi is more than half a turn, and the other way round it is less
	wantNumber(t, "heading of Pi", impl.ComposePoses(impl.Pose{}, impl.Pose{0, 0, impl.Pi})[2], half)
	wantNumber(t, "heading of Pi back", impl.BackPose(impl.Pose{0, 0, impl.Pi})[2], -half)
	wantNumber(t, "heading from Pi", impl.StepBetween(impl.Pose{0, 0, -impl.Pi}, impl.Pose{})[2], half)
	for _, a := range []float32{infinite, -infinite, nan, otherNaN} {
		none := impl.Pose{nan, nan, nan}
		wantPose(t, "ComposePoses from no heading", impl.ComposePoses(impl.Pose{1, 2, a}, impl.Pose{3, 4, 5}), none)
		wantPose(t, "ComposePoses of no heading", impl.ComposePoses(impl.Pose{1, 2, 0}, impl.Pose{3, 4, a}), impl.Pose{4, 6, nan})
		wantPose(t, "BackPose of no heading", impl.BackPose(impl.Pose{1, 2, a}), none)
		wantPose(t, "StepBetween from no heading", impl.StepBetween(impl.Pose{1, 2, a}, impl.Pose{3, 4, 5}), none)
		wantPose(t, "StepBetween to no heading", impl.StepBetween(impl.Pose{1, 2, 0}, impl.Pose{3, 4, a}), impl.Pose{2, 2, nan})
	}
}

// wantPosesAgain holds what is made of two poses against what is reckoned again.
func wantPosesAgain(t *testing.T, p, q impl.Pose) {
	t.Helper()
	there := composed(p, q)
	wantPose(t, fmt.Sprint("ComposePoses ", p, q), impl.ComposePoses(p, q), there)
	wantPose(t, fmt.Sprint("BackPose ", p), impl.BackPose(p), backOf(p))
	wantPose(t, fmt.Sprint("StepBetween ", p, q), impl.StepBetween(p, q), stepOver(p, q))
	at := impl.PointAt(p, [2]float32{q[0], q[1]})
	wantVec(t, fmt.Sprint("PointAt ", p, q), impl.Vec{at[0], at[1]}, impl.Vec{there[0], there[1]})
}

func TestPosesAgain(t *testing.T) {
	for i := range 3 {
		for _, a := range specials() {
			for _, b := range specials() {
				for k := range 3 {
					p, q := impl.Pose{1, 2, 0.5}, impl.Pose{-3, 0.25, -2}
					p[i], q[k] = a, b
					wantPosesAgain(t, p, q)
				}
			}
		}
	}
	d := &dice{seed: 200}
	for range 20000 {
		of := d.places()
		wantPosesAgain(t, d.aPose(of), d.aPose(of))
	}
	for range 5000 {
		wantPosesAgain(t, impl.Pose(vecFrom(d.any)), impl.Pose(vecFrom(d.any)))
	}
}

// isNearPose reports whether two poses are near, where headings that differ by
// whole turns are the same.
func isNearPose(p, q impl.Pose, bound float64) bool {
	turn := math.Remainder(float64(p[2])-float64(q[2]), wideTurn)
	return math.Abs(turn) <= bound && math.Hypot(float64(p[0])-float64(q[0]), float64(p[1])-float64(q[1])) <= bound
}

func TestStepsLeadThereAndBack(t *testing.T) {
	d := &dice{seed: 201}
	pose := func() impl.Pose { return impl.Pose{d.unit() * 10, d.unit() * 10, d.unit() * 3.1} }
	for range 20000 {
		p, q := pose(), pose()
		near := func(what string, got, want impl.Pose) {
			t.Helper()
			if !isNearPose(got, want, 2e-5) {
				t.Errorf("%s of %v and %v: got %v, want nearly %v", what, p, q, got, want)
			}
		}
		there := impl.ComposePoses(p, q)
		near("there and back", impl.ComposePoses(there, impl.BackPose(q)), p)
		near("the step there", impl.StepBetween(p, there), q)
		near("the step back", impl.StepBetween(there, p), impl.BackPose(q))
		near("to the end of a step", impl.ComposePoses(p, impl.StepBetween(p, q)), q)
		near("a step and the step back", impl.ComposePoses(q, impl.BackPose(q)), impl.Pose{})
		near("back and back", impl.BackPose(impl.BackPose(q)), q)
		near("nowhere", impl.StepBetween(p, p), impl.Pose{})
		wide := float64(p[2])
		far := impl.Pose{ // what the sine and the cosine of the library tell
			float32(float64(p[0]) + math.Cos(wide)*float64(q[0]) - math.Sin(wide)*float64(q[1])),
			float32(float64(p[1]) + math.Sin(wide)*float64(q[0]) + math.Cos(wide)*float64(q[1])),
			float32(math.Remainder(wide+float64(q[2]), wideTurn)),
		}
		near("there", there, far)
	}
}

func wantReckoned(t *testing.T, what string, start impl.Pose, steps []impl.Pose, want ...impl.Pose) {
	t.Helper()
	got, code := impl.ReckonPoses(start, steps)
	wantPoses(t, "ReckonPoses, "+what, got, code, want, impl.OK)
}

func wantNotReckoned(t *testing.T, what string, start impl.Pose, steps []impl.Pose, want int64) {
	t.Helper()
	got, code := impl.ReckonPoses(start, steps)
	wantPoses(t, "ReckonPoses, "+what, got, code, nil, want)
	for _, weight := range []float32{1, tiniest, greatest} {
		g, code := impl.ChainGraph(start, steps, weight)
		wantGraph(t, "ChainGraph, "+what, g, code, impl.PoseGraph{}, want)
	}
	for _, weight := range badSides() {
		g, code := impl.ChainGraph(start, steps, weight)
		wantGraph(t, fmt.Sprint("ChainGraph with the weight ", weight, ", ", what), g, code, impl.PoseGraph{}, impl.ErrRange)
	}
}

func TestPosesThatAreReckoned(t *testing.T) {
	wantReckoned(t, "no steps", impl.Pose{1, 2, 3}, nil, impl.Pose{1, 2, 3})
	wantReckoned(t, "a start that is not wrapped", impl.Pose{minusZero, 2, 70}, nil, impl.Pose{minusZero, 2, 70})
	wantReckoned(t, "one step", impl.Pose{1, 2, 0}, []impl.Pose{{3, 4, 0.5}}, impl.Pose{1, 2, 0}, impl.Pose{4, 6, 0.5})
	wantReckoned(t, "steps ahead", on(1), []impl.Pose{on(2), {0, 3, 0}, on(-5)}, on(1), on(3), impl.Pose{3, 3, 0}, impl.Pose{-2, 3, 0})
	square := []impl.Pose{{2, 0, impl.Pi / 2}, {2, 0, impl.Pi / 2}, {2, 0, impl.Pi / 2}, {2, 0, impl.Pi / 2}}
	poses, code := impl.ReckonPoses(impl.Pose{}, square)
	wantCode(t, "ReckonPoses, a square", code, impl.OK)
	corners := []impl.Pose{{}, {2, 0, impl.Pi / 2}, {2, 2, impl.Pi}, {0, 2, -impl.Pi / 2}, {}}
	wantBool(t, fmt.Sprint("ReckonPoses, a square: ", poses), slices.EqualFunc(poses, corners, func(p, q impl.Pose) bool { return isNearPose(p, q, 1e-5) }), true)
	long := slices.Repeat([]impl.Pose{on(1)}, 59)
	poses, code = impl.ReckonPoses(impl.Pose{}, long)
	wantPoses(t, "ReckonPoses, as many as there may be", poses, code, longChain(60).Poses, impl.OK)
	wantReckoned(t, "far away", on(greatest), []impl.Pose{on(1), on(-greatest), on(-greatest)}, on(greatest), on(greatest), on(0), on(-greatest))
}

func TestPosesThatAreNotReckoned(t *testing.T) {
	ahead := slices.Repeat([]impl.Pose{on(1)}, 60)
	for _, p := range badPoses() {
		wantNotReckoned(t, "start", p, nil, impl.ErrRange)
		wantNotReckoned(t, "start", p, ahead[:3], impl.ErrRange)
		wantNotReckoned(t, "start of many", p, ahead, impl.ErrRange)
		for _, i := range []int{0, 30, 59} {
			steps := slices.Clone(ahead)
			steps[i] = p
			wantNotReckoned(t, "step of many", on(0), steps, impl.ErrRange)
			wantNotReckoned(t, "step", on(0), steps[:i+1], impl.ErrRange)
			steps[0] = on(greatest)
			if i > 0 {
				wantNotReckoned(t, "step behind those that are too far", on(greatest), steps[:i+1], impl.ErrRange)
			}
		}
	}
	wantNotReckoned(t, "one too many", on(0), ahead, impl.ErrLimit)
	wantNotReckoned(t, "many too many", on(0), slices.Repeat(ahead, 10000), impl.ErrLimit)
	wantNotReckoned(t, "one too many, and too far", on(greatest), slices.Repeat([]impl.Pose{on(greatest)}, 60), impl.ErrLimit)
	wantNotReckoned(t, "too far", on(greatest), []impl.Pose{on(greatest)}, impl.ErrState)
	wantNotReckoned(t, "too far aside", impl.Pose{0, -greatest, 0}, []impl.Pose{{0, -greatest, 0}}, impl.ErrState)
	wantNotReckoned(t, "too far, and back", on(greatest), []impl.Pose{on(greatest), on(-greatest), on(-greatest), on(1)}, impl.ErrState)
	wantNotReckoned(t, "too far at last", on(greatest), []impl.Pose{on(1), on(1), on(greatest)}, impl.ErrState)
	wantNotReckoned(t, "turned too far", impl.Pose{0, 0, greatest}, []impl.Pose{{0, 0, greatest}}, impl.ErrState)
	wantNotReckoned(t, "as many as there may be, and too far", on(greatest), slices.Repeat([]impl.Pose{on(greatest)}, 59), impl.ErrState)
}

func TestPosesThatAreReckonedAgain(t *testing.T) {
	d := &dice{seed: 202}
	found := map[int64]int{}
	for range 3000 {
		of := d.places()
		start, steps := d.aPose(of), make([]impl.Pose, d.below(63))
		for i := range steps {
			steps[i] = d.aPose(of)
		}
		if d.below(10) == 0 && len(steps) > 0 {
			steps[d.below(len(steps))] = impl.Pose(vecFrom(d.any))
		}
		want, wanted := reckoned(start, steps)
		got, code := impl.ReckonPoses(start, steps)
		wantPoses(t, startOf("ReckonPoses ", start, steps), got, code, want, wanted)
		found[code]++
		weight := d.weight()
		g := impl.PoseGraph{Poses: want}
		for i := 1; i < len(want); i++ {
			g.Links = append(g.Links, impl.Link{From: int64(i) - 1, To: int64(i), Step: steps[i-1], Weight: weight})
		}
		h, code := impl.ChainGraph(start, steps, weight)
		wantGraph(t, startOf("ChainGraph ", start, steps), h, code, g, wanted)
	}
	if found[impl.OK] < 1000 || found[impl.ErrRange] < 20 || found[impl.ErrLimit] < 50 || found[impl.ErrState] < 50 {
		t.Errorf("too few of a kind: %v", found)
	}
}

// TestChainsCostNothing makes chains without loops: what their links tell is
// nearly where their poses are.
func TestChainsCostNothing(t *testing.T) {
	d := &dice{seed: 203}
	for range 1000 {
		steps := make([]impl.Pose, d.below(60))
		for i := range steps {
			steps[i] = impl.Pose{d.unit(), d.unit(), d.unit() * 3}
		}
		g, code := impl.ChainGraph(impl.Pose{d.unit(), d.unit(), d.unit()}, steps, 1)
		wantCode(t, "ChainGraph", code, impl.OK)
		wantBool(t, "ValidGraph of a chain", impl.ValidGraph(g), true)
		cost, code := impl.CostOf(g)
		wantBool(t, fmt.Sprint("CostOf a chain: ", cost, code), code == impl.OK && cost >= 0 && cost < 1e-8, true)
	}
}
