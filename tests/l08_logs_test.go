package tests

import (
	"slices"
	"testing"

	"loop.example/g01204/impl"
)

func TestSensorOfFixes(t *testing.T) {
	s := impl.FixSensor()
	wantVec(t, "Scale", s.Scale, impl.Vec{0.0625, 0.0625, 0.0625})
	wantVec(t, "Offset", s.Offset, impl.Vec{})
	wantBool(t, "Every and Delay", s.Every == 1 && s.Delay == 0, true)
	wantBool(t, "ValidSensor", impl.ValidSensor(s), true)
}

// wantRun holds the log of a mission against its entries.
func wantRun(t *testing.T, what string, m impl.Mission, seed uint32, want ...impl.Entry) {
	t.Helper()
	l, code := impl.RunMission(m, seed)
	wantLog(t, what, l, code, impl.Log{Rate: m.Rate, Start: m.Start, Beacons: m.Beacons, Entries: want}, impl.OK)
	wantBool(t, what+" is valid", impl.ValidLog(l), true)
}

// kindsOf returns the kinds of entries, a letter for each.
func kindsOf(list []impl.Entry) string {
	text := ""
	for _, e := range list {
		text += string("?tmfr?"[min(max(e.Kind, 0), 5)])
	}
	return text
}

func TestLogsOfMissions(t *testing.T) {
	wantRun(t, "no legs", impl.Mission{Rate: 3, Start: impl.Vec{minusZero, 1, 2}, Beacons: []impl.Vec{{1, minusZero, 3}}}, 7)
	wantRun(t, "a tick", impl.Mission{Rate: 8, Legs: []impl.Leg{legOf(impl.Vec{1, minusZero, 0}, 1)}}, 7, moveEntry(1, minusZero, 0), tickEntry())
	wantRun(t, "legs", impl.Mission{Rate: 8, Legs: []impl.Leg{legOf(impl.Vec{1, 0, 0}, 2), legOf(impl.Vec{}, 1), legOf(impl.Vec{0, 0, -3}, 3)}}, 7,
		moveEntry(1, 0, 0), tickEntry(), tickEntry(), moveEntry(0, 0, 0), tickEntry(), moveEntry(0, 0, -3), tickEntry(), tickEntry(), tickEntry())

	// The seeds behind 0, divided by 65536, are 15470, 18256, 53708, 43769, 25170, 40750 and 22526.
	m := impl.Mission{Rate: 1, Start: impl.Vec{10, 20, 30}, Legs: []impl.Leg{fixLeg(impl.Vec{1, 0, -1}, 1, 1)}}
	wantRun(t, "a fix", m, 0, moveEntry(1, 0, -1), tickEntry(), fixEntry(16*11+shakeAt(0), 16*20+shakeAt(1), 16*29+shakeAt(2)))
	m.Legs[0].Fix = 0
	m.Beacons = []impl.Vec{{11, 20, 25}, {8, 20, 25}}
	m.Legs[0].Beacon = 1
	wantRun(t, "a distance", m, 0, moveEntry(1, 0, -1), tickEntry(), rangeEntry(1, 5+float32(shakeAt(0))/16))
	m.Legs[0].Beacon = 0
	wantRun(t, "another distance", m, 0, moveEntry(1, 0, -1), tickEntry(), rangeEntry(0, 4+float32(shakeAt(0))/16))
	m.Legs[0].Fix = 1
	wantRun(t, "a fix and then a distance", m, 0, moveEntry(1, 0, -1), tickEntry(), fixEntry(16*11+shakeAt(0), 16*20+shakeAt(1), 16*29+shakeAt(2)), rangeEntry(0, 4+float32(shakeAt(3))/16))
	m.Legs = append(m.Legs, fixLeg(impl.Vec{}, 1, 1))
	wantRun(t, "a distance, and then a fix", m, 0, moveEntry(1, 0, -1), tickEntry(), fixEntry(16*11+shakeAt(0), 16*20+shakeAt(1), 16*29+shakeAt(2)), rangeEntry(0, 4+float32(shakeAt(3))/16),
		moveEntry(0, 0, 0), tickEntry(), fixEntry(16*11+shakeAt(4), 16*20+shakeAt(5), 16*29+shakeAt(6)))
	m.Legs[0].Fix, m.Legs[1].Fix, m.Legs[1].Beacon = 0, 0, 1
	wantRun(t, "two distances", m, 0, moveEntry(1, 0, -1), tickEntry(), rangeEntry(0, 4+float32(shakeAt(0))/16), moveEntry(0, 0, 0), tickEntry(), rangeEntry(1, 5+float32(shakeAt(1))/16))
}

// shakeAt returns the number with an index of those by which the seed 0 shakes.
func shakeAt(index int) int16 {
	return []int16{4, 0, 1, -2, 2, 3, 4}[index]
}

// TestFixesOfLegs has legs whose fixes are taken by the number of a tick in its leg.
func TestFixesOfLegs(t *testing.T) {
	for _, x := range []struct {
		legs []impl.Leg
		want string
	}{
		{[]impl.Leg{fixLeg(impl.Vec{}, 6, 0)}, "mtttttt"}, {[]impl.Leg{fixLeg(impl.Vec{}, 6, 1)}, "mtftftftftftf"}, {[]impl.Leg{fixLeg(impl.Vec{}, 6, 2)}, "mttfttfttf"}, {[]impl.Leg{fixLeg(impl.Vec{}, 6, 4)}, "mttttftt"},
		{[]impl.Leg{fixLeg(impl.Vec{}, 6, 6)}, "mttttttf"}, {[]impl.Leg{fixLeg(impl.Vec{}, 6, 7)}, "mtttttt"}, {[]impl.Leg{fixLeg(impl.Vec{}, 6, 400)}, "mtttttt"},
		{[]impl.Leg{fixLeg(impl.Vec{}, 3, 2), fixLeg(impl.Vec{}, 3, 2)}, "mttftmttft"}, {[]impl.Leg{fixLeg(impl.Vec{}, 3, 4), fixLeg(impl.Vec{}, 3, 4)}, "mtttmttt"}, {[]impl.Leg{fixLeg(impl.Vec{}, 1, 0), fixLeg(impl.Vec{}, 4, 2), fixLeg(impl.Vec{}, 2, 1)}, "mtmttfttfmtftf"},
		{[]impl.Leg{{Ticks: 2, Fix: 2}, {Ticks: 2, Beacon: -1}, {Ticks: 1}}, "mttfrmttmtr"},
	} {
		m := impl.Mission{Rate: 8, Beacons: []impl.Vec{{3, 4, 0}}, Legs: x.legs}
		l, code := impl.RunMission(m, 5)
		wantCode(t, "RunMission", code, impl.OK)
		if got := kindsOf(l.Entries); got != x.want {
			t.Errorf("RunMission %v: got %s, want %s", x.legs, got, x.want)
		}
	}
}

// TestFixesAtAnEnd has places that are too far away for counts.
func TestFixesAtAnEnd(t *testing.T) {
	m := impl.Mission{Rate: 1, Start: impl.Vec{2047.75, -2048, greatest}, Legs: []impl.Leg{fixLeg(impl.Vec{}, 1, 1), fixLeg(impl.Vec{0, 1e6, -2e38}, 1, 1)}}
	least, most := int16(32767), int16(-32768)
	for seed := range uint32(2000) {
		l, code := impl.RunMission(m, seed)
		wantLog(t, "RunMission", l, code, again(t, m, seed), impl.OK)
		c := l.Entries[2].Counts
		least, most = min(least, c[0], c[2]), max(most, c[1])
		wantBool(t, "counts are held", c[0] >= 32764-4 && c[1] <= -32768+4 && c[2] >= 32767-4, true)
	}
	wantBool(t, "counts are shaken and held", least == 32760 && most == -32764, true)
}

// again returns the log of a mission, which must have one.
func again(t *testing.T, m impl.Mission, seed uint32) impl.Log {
	t.Helper()
	l, code := logged(m, seed)
	wantCode(t, "the log again", code, impl.OK)
	return l
}

func TestLogsWithoutDistances(t *testing.T) {
	far := impl.Mission{Rate: 1, Start: impl.Vec{1e30, 0, 0}, Beacons: []impl.Vec{{}, {1e30, 0, 0}, {greatest, 0, 0}, {-greatest, 0, 0}}, Legs: []impl.Leg{legOf(impl.Vec{}, 1), legOf(impl.Vec{}, 1)}}
	for i := range int64(4) {
		m := missionLike(far)
		m.Legs[i%2].Beacon = i
		l, code := impl.RunMission(m, 1)
		if i == 1 {
			wantLog(t, "RunMission of a finite distance", l, code, again(t, m, 1), impl.OK)
			continue
		}
		wantLog(t, "RunMission of an infinite distance", l, code, impl.Log{}, impl.ErrState)
		miss, code := impl.MissOf(m, 1)
		wantNumberCode(t, "MissOf of an infinite distance", miss, code, 0, impl.ErrState)
	}
	l, code := impl.RunMission(far, 1)
	wantLog(t, "RunMission without distances", l, code, again(t, far, 1), impl.OK)
	near := far
	near.Start, near.Beacons, near.Legs = impl.Vec{}, []impl.Vec{{}}, []impl.Leg{{Ticks: 1}}
	least := float32(1)
	for seed := range uint32(100) {
		l, code := impl.RunMission(near, seed)
		wantLog(t, "RunMission of a distance of 0", l, code, again(t, near, seed), impl.OK)
		least = min(least, l.Entries[2].Distance)
	}
	wantNumber(t, "the least distance", least, -0.25)
}

// TestLongestLogs has as many entries as a mission makes.
func TestLongestLogs(t *testing.T) {
	m := impl.Mission{Rate: 64, Beacons: []impl.Vec{{3, 4, 5}}}
	for i := range 64 {
		m.Legs = append(m.Legs, impl.Leg{Ticks: int64(6 + i/48), Velocity: impl.Vec{1, 0, 0}, Fix: 1})
	}
	l, code := impl.RunMission(m, 9)
	wantLog(t, "RunMission", l, code, again(t, m, 9), impl.OK)
	wantBool(t, "most entries", len(l.Entries) == 64+400+400+64, true)
	wantBool(t, "ValidLog", impl.ValidLog(l), true)
}

func TestLogsAgain(t *testing.T) {
	d := &dice{seed: 420}
	codes := map[int64]int{}
	for range 5000 {
		m, seed := d.aMission(10), uint32(d.next()<<7^d.next())
		want, wanted := logged(m, seed)
		got, code := impl.RunMission(m, seed)
		wantLog(t, startOf("RunMission ", m), got, code, want, wanted)
		if t.Failed() {
			return
		}
		wantBool(t, "ValidLog", impl.ValidLog(got), code == impl.OK)
		codes[code]++
	}
	wantBool(t, "many codes", codes[impl.OK] > 1000 && codes[impl.ErrState] > 50, true)
}

// TestLogsHaveWhatTheMissionTells is what is promised of logs.
func TestLogsHaveWhatTheMissionTells(t *testing.T) {
	d := &dice{seed: 421}
	for range 2000 {
		m := d.aMission(10)
		for i := range m.Legs {
			m.Legs[i].Velocity = impl.Vec{d.whole(3), d.whole(3), d.whole(3)}
		}
		m.Start = impl.Vec{d.whole(9), d.whole(9), d.whole(9)}
		for i := range m.Beacons {
			m.Beacons[i] = impl.Vec{d.whole(9), d.whole(9), d.whole(9)}
		}
		l, code := impl.RunMission(m, uint32(d.next()))
		wantCode(t, "RunMission", code, impl.OK)
		track, _ := impl.TrackOf(m)
		legs, gone := 0, 0
		for i, e := range l.Entries {
			switch e.Kind {
			case impl.EnMove:
				wantVec(t, "velocity", e.V, m.Legs[legs].Velocity)
				legs++
			case impl.EnTick:
				gone++
			case impl.EnFix:
				for k, n := range e.Counts {
					off := float32(n)/16 - track[gone][k]
					wantBool(t, "a fix is near the place", off >= -4.5/16 && off <= 4.5/16, true)
				}
			case impl.EnRange:
				off := e.Distance - farBetween(track[gone], m.Beacons[e.Beacon])
				wantBool(t, "a distance is near the true one", off >= -0.2501 && off <= 0.2501, true)
				wantBool(t, "a distance is that of the last leg", e.Beacon == m.Legs[legs-1].Beacon, true)
				wantBool(t, "a distance is behind the last tick", i == len(l.Entries)-1 || l.Entries[i+1].Kind == impl.EnMove, true)
			}
		}
		wantBool(t, "all legs", legs == len(m.Legs), true)
		wantBool(t, "all ticks", gone == len(track)-1, true)
	}
}

func goodEntries() []impl.Entry {
	return []impl.Entry{
		tickEntry(), moveEntry(0, 0, 0), moveEntry(minusZero, greatest, -tiniest), fixEntry(0, 0, 0), fixEntry(32767, -32768, -1), rangeEntry(0, 0), rangeEntry(1, minusZero), rangeEntry(1, -greatest), rangeEntry(0, tiniest),
	}
}

func TestLogsThatAreValid(t *testing.T) {
	for _, l := range []impl.Log{
		{Rate: 1}, {Rate: 64}, {Rate: 8, Start: impl.Vec{greatest, minusZero, tiniest}}, {Rate: 8, Beacons: make([]impl.Vec, 6)}, plainLog(goodEntries()...), plainLog(slices.Repeat([]impl.Entry{tickEntry()}, 1200)...),
		{Rate: 8, Beacons: make([]impl.Vec, 6), Entries: []impl.Entry{rangeEntry(5, 1)}}, {Rate: 8, Beacons: []impl.Vec{{minusZero, greatest, 1}}},
	} {
		wantBool(t, startOf("ValidLog ", l), impl.ValidLog(l), true)
	}
	each(badLogs(), func(what string, l impl.Log) {
		wantBool(t, "ValidLog, "+what, impl.ValidLog(l), false)
		s, code := impl.FirstState(l)
		wantStateCode(t, "FirstState, "+what, s, code, impl.State{}, impl.ErrInvalid)
		s, code = impl.ReplayLog(l)
		wantStateCode(t, "ReplayLog, "+what, s, code, impl.State{}, impl.ErrInvalid)
		s, code = impl.ReplayFrom(l, ones(t), 0, 0)
		wantStateCode(t, "ReplayFrom, "+what, s, code, impl.State{}, impl.ErrInvalid)
		s, code = impl.ReplayFrom(l, ones(t), 2, 1)
		wantStateCode(t, "ReplayFrom in no order, "+what, s, code, impl.State{}, impl.ErrInvalid)
		list, code := impl.RefusedEntries(l)
		wantIndex(t, "RefusedEntries, "+what, int64(len(list)), code, 0, impl.ErrInvalid)
		wantTakenEntry(t, "TakeEntry, "+what, l, ones(t), tickEntry(), impl.State{}, false, impl.ErrInvalid)
		wantBool(t, "LogText, "+what, impl.LogText(l) == "", true)
	})
	wantBool(t, "ValidLog without a rate", impl.ValidLog(impl.Log{}), false)
	d := &dice{seed: 423}
	for range 3000 {
		l := logLike(d.aLog(6))
		wantBool(t, startOf("ValidLog ", l), impl.ValidLog(l), true)
		bad := badEntries(int64(len(l.Beacons)))
		e := bad[d.below(len(bad))]
		l.Entries = slices.Insert(l.Entries, d.below(len(l.Entries)+1), e)
		wantBool(t, startOf("ValidLog with ", e), impl.ValidLog(l), validLog(l))
	}
}

func TestSameLogs(t *testing.T) {
	made := func() impl.Log {
		return impl.Log{Rate: 8, Start: impl.Vec{1, 0, nan}, Beacons: []impl.Vec{{1, 2, 3}, {0, nan, 6}}, Entries: []impl.Entry{{Kind: 7, V: impl.Vec{1, 0, nan}, Counts: impl.Counts{1, 2, 3}, Beacon: 4, Distance: nan}, tickEntry()}}
	}
	want := func(what string, change func(l *impl.Log), same bool) {
		t.Helper()
		l, k := made(), made()
		change(&k)
		wantBool(t, "SameLog, "+what, impl.SameLog(l, k), same)
		wantBool(t, "SameLog, the other way round, "+what, impl.SameLog(k, l), same)
		wantBool(t, "SameLog of itself, "+what, impl.SameLog(k, k), true)
	}
	want("nothing", func(l *impl.Log) {}, true)
	want("rate", func(l *impl.Log) { l.Rate = -8 }, false)
	for i := range 3 {
		want("start", func(l *impl.Log) { l.Start[i] = 77 }, false)
		for k := range 2 {
			want("beacon", func(l *impl.Log) { l.Beacons[k][i] = 77 }, false)
			want("velocity", func(l *impl.Log) { l.Entries[k].V[i] = 77 }, false)
			want("counts", func(l *impl.Log) { l.Entries[k].Counts[i] = 77 }, false)
		}
	}
	for k := range 2 {
		want("kind", func(l *impl.Log) { l.Entries[k].Kind++ }, false)
		want("beacon of an entry", func(l *impl.Log) { l.Entries[k].Beacon++ }, false)
		want("distance", func(l *impl.Log) { l.Entries[k].Distance = 77 }, false)
	}
	want("0 and -0 in the start", func(l *impl.Log) { l.Start[1] = minusZero }, false)
	want("0 and -0 in a beacon", func(l *impl.Log) { l.Beacons[1][0] = minusZero }, false)
	want("0 and -0 in a velocity", func(l *impl.Log) { l.Entries[0].V[1] = minusZero }, false)
	want("0 and -0 in a distance", func(l *impl.Log) { l.Entries[1].Distance = minusZero }, false)
	want("another NaN", func(l *impl.Log) {
		l.Start[2], l.Beacons[1][1], l.Entries[0].V[2], l.Entries[0].Distance = otherNaN, otherNaN, otherNaN, otherNaN
	}, true)
	want("a beacon less", func(l *impl.Log) { l.Beacons = l.Beacons[:1] }, false)
	want("an entry less", func(l *impl.Log) { l.Entries = l.Entries[:1] }, false)
	want("no beacons", func(l *impl.Log) { l.Beacons = nil }, false)
	want("no entries", func(l *impl.Log) { l.Entries = nil }, false)
	want("entries in another order", func(l *impl.Log) { slices.Reverse(l.Entries) }, false)
	want("beacons in another order", func(l *impl.Log) { slices.Reverse(l.Beacons) }, false)
	wantBool(t, "SameLog of nil and empty lists", impl.SameLog(impl.Log{}, impl.Log{Beacons: []impl.Vec{}, Entries: []impl.Entry{}}), true)
}
