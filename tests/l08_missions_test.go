package tests

import (
	"fmt"
	"math"
	"slices"
	"strings"
	"testing"

	"loop.example/g01204/impl"
)

// exampleText is the text of the chapter's example.
const exampleText = "fix 4\nrepeat 2\nmove 1 0 0 8\nend\n"

func TestExampleOfVehicles(t *testing.T) {
	leg := fixLeg(impl.Vec{1, 0, 0}, 8, 4)
	want := impl.Mission{Rate: 8, Legs: []impl.Leg{leg, leg}}
	wantCompiled(t, exampleText, want)
	ticks, code := impl.TicksOf(want)
	wantIndex(t, "TicksOf", ticks, code, 16, impl.OK)
	track, code := impl.TrackOf(want)
	wantCode(t, "TrackOf", code, impl.OK)
	wantVec(t, "last place", track[len(track)-1], impl.Vec{2, 0, 0})
	for seed := range uint32(2000) {
		l, code := impl.RunMission(want, seed*2147483)
		wantIndex(t, "entries", int64(len(l.Entries)), code, 22, impl.OK)
		miss, code := impl.MissOf(want, seed*2147483)
		wantCode(t, "MissOf", code, impl.OK)
		wantBool(t, "MissOf is less than 1", miss < 1, true)
	}
}

func TestLimitsOfVehicles(t *testing.T) {
	limits := []int64{impl.MaxMissionText, impl.MaxMissionLines, impl.MaxLegs, impl.MaxTicks, impl.MaxBeacons, impl.MaxRepeat, impl.MaxDeep, impl.MaxEntries}
	wantBool(t, "limits", slices.Equal(limits, []int64{4000, 200, 64, 400, 6, 16, 3, 1200}), true)
	kinds := []int64{impl.EnTick, impl.EnMove, impl.EnFix, impl.EnRange}
	wantBool(t, "kinds", slices.Equal(kinds, []int64{1, 2, 3, 4}), true)
}

func TestFractions(t *testing.T) {
	for text, want := range map[string]float32{
		"0": 0, "-0": 0, "0/2": 0, "-0/2": 0, "-0/1024": 0, "1": 1, "-1": -1, "7": 7, "10": 10, "999999": 999999, "-999999": -999999,
		"1/2": 0.5, "-1/2": -0.5, "3/4": 0.75, "-3/8": -0.375, "1/16": 0.0625, "5/32": 0.15625, "1/64": 0.015625, "1/128": 0.0078125, "1/256": 0.00390625, "1/512": 0.001953125, "1/1024": 0.0009765625,
		"999999/1024": 976.5615234375, "-999999/1024": -976.5615234375, "2/2": 1, "100000/8": 12500, "6/4": 1.5,
	} {
		got, code := impl.ReadFraction(text)
		wantNumberCode(t, "ReadFraction "+text, got, code, want, impl.OK)
	}
}

func TestNoFractions(t *testing.T) {
	for _, text := range []string{
		"", " ", "-", "+", "/", "--", "+1", "+0", "--1", "- 1", "-+1", "00", "01", "-00", "-01", "000001", "1000000", "-1000000", "0000000", "9999999", "99999999999999999999", "9223372036854775808", "18446744073709551617",
		"1.5", "1.", ".5", "1e2", "0x1", "1_0", "1_000", "x", "1x", "x1", " 1", "1 ", "1\n", "1\x00", "\u0661", "one", "NaN", "Inf", "1,5", "1-", "1+1",
		"1/", "/2", "-/2", "1/1", "1/0", "1/3", "1/5", "1/6", "1/10", "1/12", "1/1000", "1/1023", "1/1025", "1/2048", "1/4096", "1/1048576", "1/-2", "1/+2", "1/02", "1/ 2", "1 /2", "1/2 ", "1//2", "1/2/", "1/2/2", "1/2/4", "2/4/8", "/1/2", "1\\2", "1/2.0", "1/2e0", "1/0x2", "1/x", "1/-0", "1/4294967298", "1/18446744073709551618", "1/-9223372036854775808",
		"01/2", "1000000/2", "+1/2", "1/0002", "1/1_6", strings.Repeat("1", 1000000), "1/" + strings.Repeat("2", 1000000), strings.Repeat("/", 1000000), strings.Repeat("-", 1000000),
	} {
		got, code := impl.ReadFraction(text)
		wantNumberCode(t, startOf("ReadFraction ", text), got, code, 0, impl.ErrSyntax)
	}
}

func TestFractionsAgain(t *testing.T) {
	check := func(text string) {
		want, ok := fractionOf(text)
		wanted := int64(impl.OK)
		if !ok {
			wanted = impl.ErrSyntax
		}
		got, code := impl.ReadFraction(text)
		wantNumberCode(t, fmt.Sprintf("ReadFraction %q", text), got, code, want, wanted)
	}
	for n := range 1100 {
		check(fmt.Sprint(n))
		check(fmt.Sprint("1/", n))
		check(fmt.Sprint("-", n, "/8"))
	}
	for k := range 64 {
		check(fmt.Sprint("3/", uint64(1)<<k))
		check(fmt.Sprint(uint64(1) << k))
	}
	d := &dice{seed: 400}
	const signs = "0123456789-/ +.1248"
	for range 100000 {
		text := []byte(d.aFraction())
		switch d.below(4) {
		case 0:
			text[d.below(len(text))] = signs[d.below(len(signs))]
		case 1:
			i := d.below(len(text))
			text = slices.Delete(text, i, i+1)
		case 2:
			text = slices.Insert(text, d.below(len(text)+1), signs[d.below(len(signs))])
		}
		check(string(text))
	}
}

func goodMissions() []impl.Mission {
	six := []impl.Vec{{1, 2, 3}, {}, {-1, minusZero, tiniest}, {greatest, 0, -greatest}, {4, 5, 6}, {7, 8, 9}}
	list := []impl.Mission{
		{Rate: 1}, {Rate: 64}, {Rate: 8, Start: impl.Vec{greatest, -greatest, minusZero}}, {Rate: 8, Beacons: six},
		{Rate: 8, Legs: restingLegs(64)}, {Rate: 8, Legs: append(restingLegs(63), legOf(impl.Vec{}, 337))}, {Rate: 8, Legs: []impl.Leg{legOf(impl.Vec{}, 400)}},
		{Rate: 8, Legs: []impl.Leg{fixLeg(impl.Vec{}, 1, 400), fixLeg(impl.Vec{}, 399, 1)}},
	}
	for i := range int64(6) {
		x := legOf(impl.Vec{1, tiniest, minusZero}, 3)
		x.Beacon = i
		list = append(list, impl.Mission{Rate: 8, Beacons: six[:i+1], Legs: []impl.Leg{x, legOf(impl.Vec{greatest, 0, 0}, 1)}})
	}
	return list
}

func TestMissionsThatAreValid(t *testing.T) {
	each(goodMissions(), func(what string, m impl.Mission) {
		wantBool(t, "ValidMission, "+what, impl.ValidMission(m), true)
		ticks, code := impl.TicksOf(m)
		wantIndex(t, "TicksOf, "+what, ticks, code, ticksAgain(m), impl.OK)
	})
	each(badMissions(), func(what string, m impl.Mission) {
		wantBool(t, "ValidMission, "+what, impl.ValidMission(m), false)
		ticks, code := impl.TicksOf(m)
		wantIndex(t, "TicksOf, "+what, ticks, code, 0, impl.ErrInvalid)
		track, code := impl.TrackOf(m)
		wantIndex(t, "TrackOf, "+what, int64(len(track)), code, 0, impl.ErrInvalid)
		l, code := impl.RunMission(m, 7)
		wantLog(t, "RunMission, "+what, l, code, impl.Log{}, impl.ErrInvalid)
		miss, code := impl.MissOf(m, 7)
		wantNumberCode(t, "MissOf, "+what, miss, code, 0, impl.ErrInvalid)
	})
	wantBool(t, "ValidMission without a rate", impl.ValidMission(impl.Mission{}), false)
	d := &dice{seed: 401}
	for range 3000 {
		m := d.aMission(8)
		wantBool(t, startOf("ValidMission ", m), impl.ValidMission(m), true)
		if len(m.Legs) > 0 {
			x := &m.Legs[d.below(len(m.Legs))]
			list := []int64{0, 1, -1, 2, 3, 6, 390, 400, 401, 1 << 32}
			x.Ticks, x.Fix, x.Beacon = list[d.below(10)], list[d.below(10)], list[d.below(6)]
		}
		wantBool(t, startOf("ValidMission ", m), impl.ValidMission(m), validMission(m))
	}
}

func TestSameMissions(t *testing.T) {
	made := func() impl.Mission {
		return impl.Mission{Rate: 8, Start: impl.Vec{1, 0, nan}, Beacons: []impl.Vec{{1, 2, 3}, {0, nan, 6}}, Legs: []impl.Leg{fixLeg(impl.Vec{1, 0, nan}, 3, 4), {Ticks: -1, Beacon: 99}}}
	}
	want := func(what string, change func(m *impl.Mission), same bool) {
		t.Helper()
		m, n := made(), made()
		change(&n)
		wantBool(t, "SameMission, "+what, impl.SameMission(m, n), same)
		wantBool(t, "SameMission, the other way round, "+what, impl.SameMission(n, m), same)
		wantBool(t, "SameMission of itself, "+what, impl.SameMission(n, n), true)
	}
	want("nothing", func(m *impl.Mission) {}, true)
	want("rate", func(m *impl.Mission) { m.Rate = 9 }, false)
	for i := range 3 {
		want("start", func(m *impl.Mission) { m.Start[i] += 1; m.Start[i] = min(m.Start[i], 5) }, i == 2)
		for k := range 2 {
			want("beacon", func(m *impl.Mission) { m.Beacons[k][i] = 77 }, false)
			want("velocity", func(m *impl.Mission) { m.Legs[k].Velocity[i] = 77 }, false)
		}
	}
	want("0 and -0 in the start", func(m *impl.Mission) { m.Start[1] = minusZero }, false)
	want("0 and -0 in a beacon", func(m *impl.Mission) { m.Beacons[1][0] = minusZero }, false)
	want("0 and -0 in a velocity", func(m *impl.Mission) { m.Legs[0].Velocity[1] = minusZero }, false)
	want("another NaN", func(m *impl.Mission) {
		m.Start[2], m.Beacons[1][1], m.Legs[0].Velocity[2] = otherNaN, otherNaN, otherNaN
	}, true)
	for k := range 2 {
		want("ticks", func(m *impl.Mission) { m.Legs[k].Ticks++ }, false)
		want("fix", func(m *impl.Mission) { m.Legs[k].Fix++ }, false)
		want("beacon of a leg", func(m *impl.Mission) { m.Legs[k].Beacon++ }, false)
	}
	want("a beacon less", func(m *impl.Mission) { m.Beacons = m.Beacons[:1] }, false)
	want("a leg less", func(m *impl.Mission) { m.Legs = m.Legs[:1] }, false)
	want("no beacons", func(m *impl.Mission) { m.Beacons = nil }, false)
	want("no legs", func(m *impl.Mission) { m.Legs = nil }, false)
	want("legs in another order", func(m *impl.Mission) { slices.Reverse(m.Legs) }, false)
	want("beacons in another order", func(m *impl.Mission) { slices.Reverse(m.Beacons) }, false)
	wantBool(t, "SameMission of nil and empty lists", impl.SameMission(impl.Mission{}, impl.Mission{Beacons: []impl.Vec{}, Legs: []impl.Leg{}}), true)
}

func TestTracks(t *testing.T) {
	m := impl.Mission{Rate: 4, Start: impl.Vec{1, 2, 3}, Legs: []impl.Leg{legOf(impl.Vec{4, 0, -2}, 2), legOf(impl.Vec{}, 1), legOf(impl.Vec{0, 1, 0}, 3)}}
	want := []impl.Vec{{1, 2, 3}, {2, 2, 2.5}, {3, 2, 2}, {3, 2, 2}, {3, 2.25, 2}, {3, 2.5, 2}, {3, 2.75, 2}}
	got, code := impl.TrackOf(m)
	wantPlacesOf(t, "TrackOf", got, code, want, impl.OK)
	got, code = impl.TrackOf(impl.Mission{Rate: 3, Start: impl.Vec{minusZero, 1, 0}})
	wantPlacesOf(t, "TrackOf without legs", got, code, []impl.Vec{{minusZero, 1, 0}}, impl.OK)
	got, code = impl.TrackOf(impl.Mission{Rate: 1, Start: impl.Vec{minusZero, minusZero, 0}, Legs: []impl.Leg{legOf(impl.Vec{minusZero, 0, minusZero}, 1)}})
	wantPlacesOf(t, "TrackOf, 0 and -0", got, code, []impl.Vec{{minusZero, minusZero, 0}, {minusZero, 0, 0}}, impl.OK)
	// The quotient is rounded before it is multiplied: 41 times a 41st is not 1.
	got, code = impl.TrackOf(impl.Mission{Rate: 41, Legs: []impl.Leg{legOf(impl.Vec{41, 0, 0}, 1)}})
	wantPlacesOf(t, "TrackOf by the quotient of the rate", got, code, []impl.Vec{{}, {product(41, quotient(1, 41)), 0, 0}}, impl.OK)
	wantBool(t, "41 times a 41st is 1", product(41, quotient(1, 41)) == 1, false)
}

func wantPlacesOf(t *testing.T, what string, got []impl.Vec, code int64, want []impl.Vec, wanted int64) {
	t.Helper()
	if !slices.EqualFunc(got, want, sameVec) {
		t.Errorf("%s: got %s, want %s", what, startOf(got), startOf(want))
	}
	wantCode(t, what, code, wanted)
}

func TestTracksThatAreNotFinite(t *testing.T) {
	for i := range 3 {
		for _, sign := range []float32{1, -1} {
			var v, at impl.Vec
			v[i], at[i] = sign*greatest, sign*greatest
			for _, m := range []impl.Mission{
				{Rate: 1, Start: at, Legs: []impl.Leg{legOf(v, 1)}},
				{Rate: 64, Start: at, Legs: []impl.Leg{legOf(v, 1)}},
				{Rate: 64, Legs: []impl.Leg{legOf(v, 65)}},
				{Rate: 1, Legs: []impl.Leg{legOf(v, 1), legOf(impl.Vec{}, 1), legOf(v, 1)}},
				{Rate: 1, Start: at, Legs: []impl.Leg{legOf(v, 1), legOf(impl.Vec{-v[0], -v[1], -v[2]}, 1)}}, // it would come back
			} {
				got, code := impl.TrackOf(m)
				wantPlacesOf(t, startOf("TrackOf ", m), got, code, nil, impl.ErrState)
				l, code := impl.RunMission(m, 1)
				wantLog(t, startOf("RunMission ", m), l, code, impl.Log{}, impl.ErrState)
				miss, code := impl.MissOf(m, 1)
				wantNumberCode(t, startOf("MissOf ", m), miss, code, 0, impl.ErrState)
			}
			got, code := impl.TrackOf(impl.Mission{Rate: 64, Legs: []impl.Leg{legOf(v, 64)}})
			wantCode(t, "TrackOf as far as it goes", code, impl.OK)
			wantBool(t, "TrackOf as far as it goes", len(got) == 65 && finiteVecs(got...), true)
			got, code = impl.TrackOf(impl.Mission{Rate: 1, Start: at})
			wantPlacesOf(t, "TrackOf where it rests", got, code, []impl.Vec{at}, impl.OK)
		}
	}
}

func TestTracksAgain(t *testing.T) {
	d := &dice{seed: 402}
	for range 4000 {
		m := d.aMission(8)
		want, wanted := trackAgain(m)
		got, code := impl.TrackOf(m)
		wantPlacesOf(t, startOf("TrackOf ", m), got, code, want, wanted)
		ticks, code := impl.TicksOf(m)
		wantIndex(t, "TicksOf", ticks, code, ticksAgain(m), impl.OK)
	}
	for rate := range int64(64) {
		m := impl.Mission{Rate: rate + 1, Start: vecFrom(d.unit), Legs: []impl.Leg{legOf(vecFrom(d.unit), 100), legOf(impl.Vec{1, 3, 7}, 200)}}
		want, wanted := trackAgain(m)
		got, code := impl.TrackOf(m)
		wantPlacesOf(t, startOf("TrackOf ", m), got, code, want, wanted)
	}
}

func TestTicksOfLongLists(t *testing.T) {
	for _, m := range []impl.Mission{
		{Rate: 8, Beacons: make([]impl.Vec, 100000)}, {Rate: 8, Legs: restingLegs(100000)},
		{Rate: 8, Legs: slices.Repeat([]impl.Leg{legOf(impl.Vec{}, math.MaxInt64)}, 2)}, {Rate: 8, Legs: slices.Repeat([]impl.Leg{legOf(impl.Vec{}, math.MaxInt64)}, 64)},
	} {
		ticks, code := impl.TicksOf(m)
		wantIndex(t, startOf("TicksOf ", m), ticks, code, 0, impl.ErrInvalid)
		wantBool(t, startOf("SameMission ", m), impl.SameMission(m, missionLike(m)), true)
	}
}
