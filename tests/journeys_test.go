package tests

import (
	"fmt"
	"slices"
	"strings"
	"testing"

	"loop.example/g01204/impl"
)

// What is promised of all chapters together: journeys are replayed from their texts
// to the last bit, and fleets agree, whatever is lost.

// aJourney returns the text of a mission without an error, and its log.
func (d *dice) aJourney(t *testing.T) (string, impl.Log) {
	t.Helper()
	for {
		lines := append([]string{"rate 4", "start 1/2 -3 7/8", "beacon 3 4 0", "beacon -5 1/2 6"}, d.aPlainScript(9, 3)...)
		text := lineList(lines...)
		m, _, code := impl.CompileMission(text)
		if code != impl.OK {
			continue
		}
		l, code := impl.RunMission(m, uint32(d.next()))
		if _, other := impl.ReplayLog(l); code == impl.OK && other == impl.OK && len(l.Entries) > 0 {
			return text, l
		}
	}
}

// statesOf returns the state behind each entry of a log, all of them from the first
// one on.
func statesOf(t *testing.T, l impl.Log) []impl.State {
	t.Helper()
	start, code := impl.FirstState(l)
	wantCode(t, "FirstState", code, impl.OK)
	states := []impl.State{start}
	for i := range l.Entries {
		s, code := impl.ReplayFrom(l, start, 0, int64(i+1))
		wantCode(t, "ReplayFrom", code, impl.OK)
		states = append(states, s)
	}
	return states
}

// statesFromTexts returns the same of the text of a log, and each state from the text
// of the one before it.
func statesFromTexts(t *testing.T, text string) []impl.State {
	t.Helper()
	l, code := impl.ReadLog(text)
	wantCode(t, "ReadLog", code, impl.OK)
	s, _ := impl.FirstState(l)
	states := []impl.State{s}
	for i := range l.Entries {
		back, code := impl.ReadState(impl.StateText(s))
		wantCode(t, "ReadState", code, impl.OK)
		s, code = impl.ReplayFrom(l, back, int64(i), int64(i+1))
		wantCode(t, "ReplayFrom", code, impl.OK)
		states = append(states, s)
	}
	return states
}

func TestJourneysAreReplayedFromTheirTexts(t *testing.T) {
	d := &dice{seed: 550}
	for range 120 {
		mission, l := d.aJourney(t)
		text := impl.LogText(l)
		states, others := statesOf(t, l), statesFromTexts(t, text)
		if !slices.EqualFunc(states, others, impl.SameState) {
			t.Fatalf("other states from the text of %q", mission)
		}
		last, code := impl.ReplayLog(l)
		wantStateCode(t, "ReplayLog", last, code, states[len(states)-1], impl.OK)
		back, code := impl.ReadLog(text)
		wantLog(t, "ReadLog", back, code, l, impl.OK)
		wantBool(t, "the text of what is read", impl.LogText(back) == text, true)
		for range 5 {
			from := d.below(len(states))
			to := from + d.below(len(states)-from)
			wantReplayed(t, "a part of it", back, others[from], int64(from), int64(to), states[to], impl.OK)
		}
	}
}

// sightsOn returns what a vehicle sees on its way: landmarks that are at its left, where
// it thinks that it is.
func sightsOn(t *testing.T, states []impl.State) []impl.Sight {
	t.Helper()
	var list []impl.Sight
	for i := 0; i < len(states) && len(list) < 16; i += 1 + len(states)/16 {
		v := impl.VelocityOf(states[i])
		left := impl.TurnVec(impl.TurnOfHeading(impl.AngleOf(v[1], v[0])), impl.Vec{0, 2, 0})
		spread, code := impl.SpreadOf(states[i], 0)
		wantCode(t, "SpreadOf", code, impl.OK)
		x := impl.Sight{At: impl.AddVec(impl.PositionOf(states[i]), left), Weight: 1 / (1 + spread), Time: int64(i)}
		if _, code := impl.CellOf(2, x.At); code == impl.OK {
			list = append(list, x)
		}
	}
	return list
}

// ledBy writes what becomes of a fleet whose vehicles agree on a map: the map, the grid
// of its marks, and a way between them, along which a pose moves.
func ledBy(t *testing.T, f impl.Fleet, deeds []impl.Deed, read bool) string {
	t.Helper()
	plan, code := impl.FinishDeeds(f, deeds)
	wantCode(t, "FinishDeeds", code, impl.OK)
	m, code := impl.MapOf(f, slices.Concat(deeds, plan), 0)
	wantCode(t, "MapOf", code, impl.OK)
	if read {
		m, code = impl.ReadMap(impl.MapText(m))
		wantCode(t, "ReadMap", code, impl.OK)
	}
	g, code := impl.GridOfMarks(m, 24, 24, [2]float32{-24, -24}, 2)
	wantCode(t, "GridOfMarks", code, impl.OK)
	if read {
		g, code = impl.ReadGrid(impl.GridText(g))
		wantCode(t, "ReadGrid", code, impl.OK)
	}
	route, cost, code := impl.BestRoute(g, impl.Spot{0, 0}, impl.Spot{23, 23})
	short, _ := impl.ShortenRoute(g, route)
	way, _ := impl.PointsOf(short, [2]float32{-24, -24}, 2)
	out := fmt.Sprintln(impl.MapText(m), impl.GridText(g), route, cost, code)
	p, steps := impl.Pose{-23, -23, 0}, []impl.Pose(nil)
	for range 20 {
		q, _ := impl.FollowWay(way, p, 3, 1.5)
		steps = append(steps, impl.StepBetween(p, q))
		p = q
	}
	chain, code := impl.ChainGraph(impl.Pose{-23, -23, 0}, steps, 1)
	if code == impl.OK && read {
		chain, code = impl.ReadPoseGraph(impl.GraphText(chain))
	}
	chain, sweeps, _ := impl.RelaxGraph(chain, 9)
	return out + fmt.Sprintln(code, sweeps, impl.GraphText(chain), bitsOf(p[:]...))
}

// TestJourneysOfFleets lets vehicles see landmarks on journeys that are replayed, and
// again on the same journeys, which are replayed from their texts.
func TestJourneysOfFleets(t *testing.T) {
	d := &dice{seed: 551}
	routes := 0
	for range 60 {
		f, again := impl.Fleet{Side: 2, Gate: 1}, impl.Fleet{Side: 2, Gate: 1}
		for range 1 + d.below(4) {
			_, l := d.aJourney(t)
			f.Sights = append(f.Sights, sightsOn(t, statesOf(t, l)))
			again.Sights = append(again.Sights, sightsOn(t, statesFromTexts(t, impl.LogText(l))))
		}
		deeds := d.someDeeds(f, 60)
		var back []impl.Deed
		for _, x := range deeds {
			y, code := impl.ReadDeed(impl.DeedText(x))
			wantCode(t, "ReadDeed", code, impl.OK)
			back = append(back, y)
		}
		want := ledBy(t, f, deeds, false)
		if got := ledBy(t, again, back, true); got != want {
			t.Fatalf("another end from texts: got %s, want %s", got, want)
		}
		if strings.Contains(want, "] 0 6\n") { // no route
			continue
		}
		routes++
	}
	wantBool(t, "routes", routes > 20, true)
}

// TestFleetsAgreeWhateverIsLost loses packets and minds in all kinds of ways.
func TestFleetsAgreeWhateverIsLost(t *testing.T) {
	d := &dice{seed: 552}
	for range 1200 {
		f := d.aFleet(12)
		deeds := d.someDeeds(f, 110)
		for i, x := range deeds { // much is lost
			if d.below(3) == 0 {
				deeds[i] = impl.Deed{Kind: []int64{impl.DdDrop, impl.DdCrash}[d.below(2)], A: min(x.A, 3)}
			}
		}
		plan, code := impl.FinishDeeds(f, deeds)
		wantCode(t, startOf("FinishDeeds behind ", textsOf(deeds)), code, impl.OK)
		wantAgreed(t, startOf("behind ", textsOf(deeds)), f, slices.Concat(deeds, plan), true, impl.OK)
	}
}

// TestWhatIsLostChangesNoMap lets no packet come in before the plan: then it does not
// matter what has been sent, saved and lost.
func TestWhatIsLostChangesNoMap(t *testing.T) {
	d := &dice{seed: 553}
	for range 1000 {
		f := d.aFleet(12)
		plan, _ := impl.FinishDeeds(f, nil)
		want, _, code := impl.YardAfter(f, plan)
		wantCode(t, "YardAfter", code, impl.OK)
		deeds := without(without(d.someDeeds(f, 110), impl.DdDeliver), impl.DdCopy)
		plan, code = impl.FinishDeeds(f, deeds)
		wantCode(t, "FinishDeeds", code, impl.OK)
		got, _, code := impl.YardAfter(f, slices.Concat(deeds, plan))
		wantYard(t, startOf("behind ", textsOf(deeds)), got, 0, code, want, 0, impl.OK)
	}
}
