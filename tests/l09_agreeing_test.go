package tests

import (
	"fmt"
	"slices"
	"strings"
	"testing"

	"loop.example/g01204/impl"
)

func TestPlans(t *testing.T) {
	lines := func(text string) []string { return strings.Split(text, "; ") }
	three := rowFleet(3, 2)
	wantDeeds(t, "three vehicles", three, nil, lines("see 0; see 0; see 1; see 1; see 2; see 2; send 1 0; deliver 0; send 2 0; deliver 0; send 0 1; deliver 0; send 0 2; deliver 0; save 0; save 1; save 2"), impl.OK)
	wantDeeds(t, "some has been done", three, deedsOf("see 1; see 1; send 1 0; send 0 2; see 0; save 0; copy 1"), lines("drop 0; drop 0; see 0; see 2; see 2; send 1 0; deliver 0; send 2 0; deliver 0; send 0 1; deliver 0; send 0 2; deliver 0; save 0; save 1; save 2"), impl.OK)
	wantDeeds(t, "a crash", three, deedsOf("see 0; see 0; see 1; save 1; see 1; see 2; see 2; crash 0; crash 1"), lines("see 0; see 0; see 1; send 1 0; deliver 0; send 2 0; deliver 0; send 0 1; deliver 0; send 0 2; deliver 0; save 0; save 1; save 2"), impl.OK)
	wantDeeds(t, "deeds that are left out", three, deedsOf("see 3; drop 0; send 1 1; see 0; see 0; see 0"), lines("see 1; see 1; see 2; see 2; send 1 0; deliver 0; send 2 0; deliver 0; send 0 1; deliver 0; send 0 2; deliver 0; save 0; save 1; save 2"), impl.OK)
	wantDeeds(t, "one vehicle", rowFleet(1, 2), nil, lines("see 0; see 0; save 0"), impl.OK)
	wantDeeds(t, "one vehicle, all done", rowFleet(1, 2), deedsOf("see 0; see 0; save 0"), lines("save 0"), impl.OK)
	wantDeeds(t, "nothing to be seen", rowFleet(2, 0), nil, lines("send 1 0; deliver 0; send 0 1; deliver 0; save 0; save 1"), impl.OK)
	crowded := crowdedFleet()
	wantDeeds(t, "no place", crowded, nil, lines("see 0; see 1; see 1; send 1 0; deliver 0; send 0 1; deliver 0; save 0; save 1"), impl.OK)
	wantDeeds(t, "no place from the beginning", crowded, deedsOf("see 0; see 1"), lines("see 1; send 1 0; deliver 0; send 0 1; deliver 0; save 0; save 1"), impl.OK)
	wantDeeds(t, "no place, again behind a crash", crowded, deedsOf("see 0; see 1; see 1; crash 0"), lines("see 0; send 1 0; deliver 0; send 0 1; deliver 0; save 0; save 1"), impl.OK)
	full := slices.Repeat(deedsOf("send 0 1"), 10)
	wantDeeds(t, "a full wire", rowFleet(2, 0), full, append(slices.Repeat(lines("drop 0"), 10), lines("send 1 0; deliver 0; send 0 1; deliver 0; save 0; save 1")...), impl.OK)
}

// TestPlansThatAreTooLong has as many deeds before as there may be, and one more.
func TestPlansThatAreTooLong(t *testing.T) {
	for _, f := range []impl.Fleet{rowFleet(4, 16), rowFleet(4, 0), rowFleet(1, 0), rowFleet(1, 1), twoFleet(), crowdedFleet()} {
		plan, code := impl.FinishDeeds(f, nil)
		wantCode(t, "FinishDeeds", code, impl.OK)
		for _, deed := range []string{"save 0", "crash 0", "see 999", "drop 0"} { // those that are left out count as well
			for _, more := range []int{0, 1, 2, 100} {
				deeds := slices.Repeat(deedsOf(deed), min(200-len(plan)+more, 200))
				if len(deeds)+len(plan) > 200 {
					wantDeeds(t, "too long", f, deeds, nil, impl.ErrLimit)
					continue
				}
				wantDeeds(t, "just not too long", f, deeds, textsOf(plan), impl.OK)
				_, _, code := impl.YardAfter(f, append(deeds, plan...))
				wantCode(t, "YardAfter all deeds", code, impl.OK)
			}
		}
	}
}

// without returns the deeds of a kind.
func without(deeds []impl.Deed, kind int64) []impl.Deed {
	return slices.DeleteFunc(slices.Clone(deeds), func(d impl.Deed) bool { return d.Kind == kind })
}

// TestInTheEndAllVehiclesAgree is what is promised of plans.
func TestInTheEndAllVehiclesAgree(t *testing.T) {
	d := &dice{seed: 520}
	ended := 0
	for range 2500 {
		f := d.aFleet(16)
		if d.below(12) == 0 {
			f = crowdedFleet()
		}
		deeds := d.someDeeds(f, 110)
		want, wanted := planAgain(f, deeds)
		what := startOf(f, textsOf(deeds))
		plan := wantDeeds(t, what, f, deeds, want, wanted)
		if t.Failed() {
			return
		}
		if wanted != impl.OK {
			continue
		}
		_, before, _ := impl.YardAfter(f, deeds)
		all := slices.Concat(deeds, plan)
		y, done, code := impl.YardAfter(f, all)
		wantIndex(t, "all of the plan is done, "+what, done, code, before+int64(len(plan)), impl.OK)
		wantAgreed(t, what, f, all, true, impl.OK)
		wantBool(t, "no packets are left, "+what, len(y.Wire) == 0, true)
		wantBool(t, "all is saved, "+what, slices.EqualFunc(y.Minds, y.Saved, sameMind), true)
		for v, mind := range y.Minds {
			wantMap(t, "the maps are the same, "+what, mind.Map, impl.OK, y.Minds[0].Map, impl.OK)
			if mind.Taken < int64(len(f.Sights[v])) {
				ended++
				see := impl.Deed{Kind: impl.DdSee, A: int64(v)}
				_, wrong, _ := impl.RefusedDeed(f, append(doneOf(f, append(deeds, without(without(plan, impl.DdSend), impl.DdDeliver)...)), see))
				wantCode(t, "there is no place for the next sight, "+what, wrong, impl.ErrLimit)
			}
		}
	}
	wantBool(t, "sights without places", ended > 100, true)
}

// TestAgreedMapsHaveTheMarksOfAll holds the agreed map against what each vehicle knows
// when it has taken all of its sights.
func TestAgreedMapsHaveTheMarksOfAll(t *testing.T) {
	d := &dice{seed: 521}
	for range 600 {
		f := d.aFleet(16)
		plan, _ := impl.FinishDeeds(f, nil)
		agreed, code := impl.MapOf(f, plan, 0)
		wantCode(t, "MapOf", code, impl.OK)
		merged := impl.LandMap{Side: f.Side}
		seen := without(without(plan, impl.DdSend), impl.DdDeliver)
		for v := range f.Sights {
			m, code := impl.MapOf(f, seen, int64(v))
			wantCode(t, "MapOf", code, impl.OK)
			merged, code = impl.MergeMaps(m, merged)
			wantCode(t, "MergeMaps", code, impl.OK)
			for _, x := range m.Marks {
				y, code := impl.MarkIn(agreed, x.Cell)
				wantBool(t, fmt.Sprint("the mark or a better one: ", x, y, code), code == impl.OK && orderOfMarks(y, x) >= 0, true)
			}
		}
		wantMap(t, "the agreed map", agreed, impl.OK, merged, impl.OK)
	}
}

// TestPacketsThatComeTwice lets packets come in once more: at once, for each one that
// is delivered, and behind all deeds.
func TestPacketsThatComeTwice(t *testing.T) {
	d := &dice{seed: 522}
	twice := 0
	for range 2000 {
		f := d.aFleet(6)
		deeds := doneOf(f, d.someDeeds(f, 60))
		once := yardAfter(t, f, deeds)
		var often, taken []impl.Deed
		for _, x := range deeds {
			switch x.Kind {
			case impl.DdDeliver:
				copies := slices.Repeat([]impl.Deed{{Kind: impl.DdCopy, A: x.A}}, 1+d.below(2))
				often, taken = append(append(often, copies...), x), append(taken, copies[0], impl.Deed{Kind: impl.DdDrop, A: x.A})
				twice++
			case impl.DdCopy:
				often, taken = append(often, x, x), append(taken, x)
				twice++
			default:
				often, taken = append(often, x), append(taken, x)
			}
		}
		if len(often) > 200 {
			continue
		}
		y := yardAfter(t, f, often)
		wantYard(t, startOf("twice: ", textsOf(often)), y, 0, impl.OK, once, 0, impl.OK)
		y = yardAfter(t, f, taken)
		wantYard(t, startOf("copied and dropped: ", textsOf(taken)), y, 0, impl.OK, once, 0, impl.OK)
	}
	wantBool(t, "packets that come twice", twice > 2000, true)
}

// TestAgreedMapsStay sends agreed maps on, of which some are lost, come twice or late,
// while vehicles crash: no map changes any more.
func TestAgreedMapsStay(t *testing.T) {
	d := &dice{seed: 523}
	for range 600 {
		f := d.aFleet(6)
		before := d.someDeeds(f, 40)
		plan, code := impl.FinishDeeds(f, before)
		wantCode(t, "FinishDeeds", code, impl.OK)
		deeds := slices.Concat(before, plan)
		agreed, _, _ := impl.YardAfter(f, deeds)
		more := without(d.someDeeds(f, 60), impl.DdSee)
		y, _, code := impl.YardAfter(f, append(deeds, more...))
		wantCode(t, "YardAfter", code, impl.OK)
		y.Wire = nil
		wantYard(t, startOf("behind ", textsOf(more)), y, 0, impl.OK, agreed, 0, impl.OK)
		wantAgreed(t, startOf("behind ", textsOf(more)), f, append(deeds, more...), true, impl.OK)
	}
}

// TestVehiclesThatDoNotAgree has maps that differ in little.
func TestVehiclesThatDoNotAgree(t *testing.T) {
	base := sightAt(0, 0, 0)
	for _, change := range []func(x *impl.Sight){
		func(x *impl.Sight) { x.At[0] = 0.25 }, func(x *impl.Sight) { x.At[1] = minusZero }, func(x *impl.Sight) { x.At[2] = 5 }, func(x *impl.Sight) { x.Weight = 2 }, func(x *impl.Sight) { x.Time = 6 },
	} {
		other := base
		change(&other)
		for v := range 4 {
			f := plainFleet([]impl.Sight{base}, []impl.Sight{base}, []impl.Sight{base}, []impl.Sight{base})
			deeds := deedsOf("see 0; see 1; see 2; see 3")
			wantAgreed(t, "all see the same", f, deeds, true, impl.OK)
			wantAgreed(t, "one has not seen it yet", f, slices.Delete(slices.Clone(deeds), v, v+1), false, impl.OK)
			f.Sights[v][0] = other
			wantAgreed(t, startOf("one sees ", other), f, deeds, false, impl.OK)
			wantAgreed(t, "that one has not seen it yet", f, slices.Delete(slices.Clone(deeds), v, v+1), false, impl.OK)
		}
	}
	f := plainFleet([]impl.Sight{base}, []impl.Sight{base, base})
	wantAgreed(t, "one has seen it twice", f, deedsOf("see 0; see 1; see 1"), false, impl.OK)
	wantAgreed(t, "maps count, and not how much is taken", f, deedsOf("see 0; send 0 1; deliver 0"), true, impl.OK)
	wantAgreed(t, "nor what has been saved", f, deedsOf("see 0; see 1; save 0"), true, impl.OK)
	wantAgreed(t, "one vehicle", rowFleet(1, 3), deedsOf("see 0"), true, impl.OK)
}
