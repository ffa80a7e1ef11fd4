package tests

import (
	"fmt"
	"math"
	"slices"
	"strings"
	"testing"

	"loop.example/g01204/impl"
)

func TestExampleOfFleets(t *testing.T) {
	f := twoFleet()
	want := []string{"see 0", "see 1", "send 1 0", "deliver 0", "send 0 1", "deliver 0", "save 0", "save 1"}
	plan := wantDeeds(t, "the example", f, nil, want, impl.OK)
	marks := []impl.Mark{{Weight: 1, Seen: 1, Last: 5}, {Cell: impl.Place{3, 0, 0}, At: impl.Vec{3, 0, 0}, Weight: 1, Seen: 1, Last: 5}}
	for v := range int64(2) {
		m, code := impl.MapOf(f, plan, v)
		wantMap(t, fmt.Sprint("MapOf ", v), m, code, mapOf(marks...), impl.OK)
	}
	wantAgreed(t, "behind all", f, plan, true, impl.OK)
	wantAgreed(t, "before the last map comes in", f, plan[:5], false, impl.OK)
	wantAgreed(t, "at first", f, nil, true, impl.OK)
}

func TestLimitsOfFleets(t *testing.T) {
	limits := []int64{impl.MaxVehicles, impl.MaxSights, impl.MaxWire, impl.MaxDeeds, impl.MaxScriptText, impl.MaxScriptLines}
	wantBool(t, "limits", slices.Equal(limits, []int64{4, 16, 10, 200, 10000, 120}), true)
	kinds := []int64{impl.DdSee, impl.DdSend, impl.DdDeliver, impl.DdCopy, impl.DdDrop, impl.DdSave, impl.DdCrash}
	wantBool(t, "kinds", slices.Equal(kinds, []int64{1, 2, 3, 4, 5, 6, 7}), true)
}

func goodFleets() []impl.Fleet {
	var list []impl.Fleet
	put := func(change func(f *impl.Fleet)) {
		f := rowFleet(2, 2)
		change(&f)
		list = append(list, f)
	}
	for vehicles := range 4 {
		for _, sights := range []int{0, 1, 15, 16} {
			list = append(list, rowFleet(vehicles+1, sights))
		}
	}
	for _, a := range []float32{0, minusZero, tiniest, greatest} {
		put(func(f *impl.Fleet) { f.Gate = a })
	}
	for _, a := range []float32{tiniest, greatest} {
		put(func(f *impl.Fleet) { f.Side, f.Sights = a, make([][]impl.Sight, 3) })
	}
	for i := range 3 {
		for _, a := range []float32{1000000, -1000000, 1000000.5, tiniest, minusZero} {
			put(func(f *impl.Fleet) { f.Sights[1][1].At[i] = a })
		}
	}
	for _, a := range []float32{1000000, math.Nextafter32(1000000, 0), 1, tiniest} {
		put(func(f *impl.Fleet) { f.Sights[0][1].Weight = a })
	}
	for _, k := range []int64{0, 1, 999999999, 1000000000} {
		put(func(f *impl.Fleet) { f.Sights[1][0].Time = k })
	}
	put(func(f *impl.Fleet) { f.Side, f.Sights[0][0].At = 1e33, impl.Vec{greatest, -greatest, 0} })
	return list
}

// wantNoAnswers holds all functions that take a fleet against a code.
func wantNoAnswers(t *testing.T, what string, f impl.Fleet, deeds []impl.Deed, vehicle, wanted int64) {
	t.Helper()
	y, done, code := impl.YardAfter(f, deeds)
	wantYard(t, "YardAfter, "+what, y, done, code, impl.Yard{}, 0, wanted)
	wantRefused(t, what, f, deeds, 0, 0, wanted)
	m, code := impl.MapOf(f, deeds, vehicle)
	wantMap(t, "MapOf, "+what, m, code, impl.LandMap{}, wanted)
	wantAgreed(t, what, f, deeds, false, wanted)
	wantDeeds(t, what, f, deeds, nil, wanted)
}

func TestFleetsThatAreValid(t *testing.T) {
	each(goodFleets(), func(what string, f impl.Fleet) {
		wantBool(t, "ValidFleet, "+what, impl.ValidFleet(f), true)
		_, _, code := impl.YardAfter(f, nil)
		wantCode(t, "YardAfter, "+what, code, impl.OK)
		wantScript(t, f, "agreed", "yes\n", impl.OK)
	})
	many := slices.Repeat([]impl.Deed{{Kind: impl.DdSave}}, 201)
	each(badFleets(), func(what string, f impl.Fleet) {
		wantBool(t, "ValidFleet, "+what, impl.ValidFleet(f), false)
		wantNoAnswers(t, what, f, nil, 0, impl.ErrInvalid)
		wantNoAnswers(t, what, f, many, 99, impl.ErrInvalid)
		for _, text := range []string{"", "agreed", "see 0\n", strings.Repeat("\n", 121), strings.Repeat("x", 10001)} {
			wantScript(t, f, text, "", impl.ErrInvalid)
		}
	})
	wantBool(t, "ValidFleet of nothing", impl.ValidFleet(impl.Fleet{}), false)
	d := &dice{seed: 500}
	for range 3000 {
		f := d.aFleet(6)
		wantBool(t, startOf("ValidFleet ", f), impl.ValidFleet(f), true)
		list := &f.Sights[d.below(len(f.Sights))]
		*list = append(*list, d.aSight(f))
		x := &(*list)[d.below(len(*list))]
		switch d.below(5) {
		case 0:
			x.At[d.below(3)] = d.any()
		case 1:
			x.Weight = d.any()
		case 2:
			x.Time = []int64{-1, 0, 1000000000, 1000000001}[d.below(4)]
		case 3:
			f.Side = d.any()
		case 4:
			f.Gate = d.any()
		}
		wantBool(t, startOf("ValidFleet ", f), impl.ValidFleet(f), validFleet(f))
	}
}

// TestDeedsOfFleetsThatAreNone has deeds that are not valid among others, too many
// deeds, and vehicles that are none.
func TestDeedsOfFleetsThatAreNone(t *testing.T) {
	f := rowFleet(3, 2)
	each(badDeeds(), func(what string, bad impl.Deed) {
		good := deedsOf("see 0; send 0 1; deliver 0")
		for at := range 4 {
			deeds := slices.Insert(slices.Clone(good), at, bad)
			wantNoAnswers(t, what, f, deeds, 0, impl.ErrInvalid)
			wantNoAnswers(t, what, f, deeds, 3, impl.ErrInvalid)
		}
		wantNoAnswers(t, what, f, append(slices.Repeat(good, 70), bad), 0, impl.ErrInvalid)
		wantNoAnswers(t, what, f, append([]impl.Deed{bad}, slices.Repeat(good, 70)...), 3, impl.ErrInvalid)
	})
	many := slices.Repeat(deedsOf("save 0"), 200)
	y, done, code := impl.YardAfter(f, many)
	wantYard(t, "YardAfter of 200 deeds", y, done, code, depotOf(f).yard(), 200, impl.OK)
	wantRefused(t, "200 deeds", f, many, 0, 0, impl.ErrNotFound)
	wantAgreed(t, "200 deeds", f, many, true, impl.OK)
	m, code := impl.MapOf(f, many, 2)
	wantMap(t, "MapOf of 200 deeds", m, code, mapOf(), impl.OK)
	wantDeeds(t, "200 deeds", f, many, nil, impl.ErrLimit)
	for _, deed := range []string{"save 0", "see 999", "drop 0"} { // deeds that are left out count as well
		wantNoAnswers(t, "201 deeds", f, append(many, deedsOf(deed)...), 0, impl.ErrRange)
		wantNoAnswers(t, "201 deeds", f, slices.Repeat(deedsOf(deed), 201), 3, impl.ErrRange)
		wantNoAnswers(t, "many deeds", f, slices.Repeat(deedsOf(deed), 100000), 0, impl.ErrRange)
	}
	for vehicles := range 4 {
		f := rowFleet(vehicles+1, 1)
		for _, v := range append(noIndices(vehicles+1), 4, 5, -2) {
			m, code := impl.MapOf(f, deedsOf("see 0"), v)
			if v == int64(vehicles) || v < 0 || v > int64(vehicles) {
				wantMap(t, fmt.Sprint("MapOf ", v), m, code, impl.LandMap{}, impl.ErrRange)
			}
		}
		for v := range int64(vehicles + 1) {
			m, code := impl.MapOf(f, []impl.Deed{{Kind: impl.DdSee, A: v}}, v)
			want, _, _ := impl.ObserveMark(mapOf(), f.Sights[v][0].At, 1, 5, 0.5)
			wantMap(t, fmt.Sprint("MapOf ", v), m, code, want, impl.OK)
		}
	}
}

// TestFirstYards has no deeds.
func TestFirstYards(t *testing.T) {
	each(goodFleets(), func(what string, f impl.Fleet) {
		y, done, code := impl.YardAfter(f, nil)
		wantYard(t, "YardAfter, "+what, y, done, code, depotOf(f).yard(), 0, impl.OK)
		wantBool(t, "so many minds", len(y.Minds) == len(f.Sights) && len(y.Saved) == len(f.Sights) && len(y.Wire) == 0, true)
		wantRefused(t, what, f, nil, 0, 0, impl.ErrNotFound)
		wantAgreed(t, what, f, nil, true, impl.OK)
		empty, _ := impl.EmptyMap(f.Side)
		for v := range f.Sights {
			m, code := impl.MapOf(f, nil, int64(v))
			wantMap(t, "MapOf, "+what, m, code, empty, impl.OK)
		}
	})
}

func TestYardsAgain(t *testing.T) {
	d := &dice{seed: 501}
	wrongs, agreements, dones := map[int64]int{}, 0, 0
	for range 4000 {
		f := d.aFleet(8)
		if d.below(3) == 0 {
			f = crowdedFleet()
		}
		deeds := d.someDeeds(f, 60)
		k, wantedDone, at, wrong := depotAfter(f, deeds)
		what := startOf(f, textsOf(deeds))
		y, done, code := impl.YardAfter(f, deeds)
		wantYard(t, "YardAfter "+what, y, done, code, k.yard(), wantedDone, impl.OK)
		if at < 0 {
			wantRefused(t, what, f, deeds, 0, 0, impl.ErrNotFound)
		} else {
			wantRefused(t, what, f, deeds, at, wrong, impl.OK)
		}
		for v, mind := range k.minds {
			m, code := impl.MapOf(f, deeds, int64(v))
			wantMap(t, "MapOf "+what, m, code, mind.Map, impl.OK)
			wantBool(t, "ValidMap of MapOf "+what, impl.ValidMap(m), true)
		}
		wantAgreed(t, what, f, deeds, k.agreed(), impl.OK)
		if t.Failed() {
			return
		}
		wrongs[wrong]++
		dones += int(done)
		if k.agreed() && dones > 3 {
			agreements++
		}
	}
	for _, code := range []int64{impl.ErrRange, impl.ErrState, impl.ErrLimit} {
		if wrongs[code] < 80 {
			t.Errorf("only %d yards with a first error %d", wrongs[code], code)
		}
	}
	wantBool(t, "many deeds, and many agreements", dones > 40000 && agreements > 200, true)
}
