package tests

import (
	"fmt"
	"math"
	"slices"
	"strings"
	"testing"

	"loop.example/g01204/impl"
)

// vehicleArguments has something for every function of chapter 8.
type vehicleArguments struct {
	m, n           impl.Mission
	l, k           impl.Log
	s              impl.State
	e              impl.Entry
	seed           uint32
	from, to       int64
	text, fraction string
	logText        string
}

// answers calls every function and writes all results, numbers by their bits. What
// is returned is overwritten then, as far as it has room.
func (a *vehicleArguments) answers() string {
	var out strings.Builder
	add := func(list ...any) { fmt.Fprintln(&out, list...) }
	vecs := func(list []impl.Vec, code int64) {
		add(len(list), code)
		for i, v := range list[:cap(list)] {
			if i < len(list) {
				add(bitsOf(v[:]...))
			}
			list[:cap(list)][i] = impl.Vec{77, 78, 79}
		}
	}
	state := func(s impl.State, code int64) {
		add(bitsOf(s.X[:]...), code)
		for _, row := range s.S {
			add(bitsOf(row[:]...))
		}
	}
	log := func(l impl.Log, code int64) {
		add(l.Rate, bitsOf(l.Start[:]...))
		vecs(l.Beacons, code)
		for i, e := range l.Entries[:cap(l.Entries)] {
			if i < len(l.Entries) {
				add(e.Kind, bitsOf(e.V[:]...), e.Counts, e.Beacon, bitsOf(e.Distance))
			}
			l.Entries[:cap(l.Entries)][i] = rangeEntry(77, 78)
		}
	}
	number := func(b float32, code int64) { add(bitsOf(b), code) }
	number(impl.ReadFraction(a.fraction))
	add(impl.ValidMission(a.m), impl.SameMission(a.m, a.n), impl.ValidLog(a.l), impl.SameLog(a.l, a.k))
	m, line, code := impl.CompileMission(a.text)
	add(m.Rate, bitsOf(m.Start[:]...), line)
	vecs(m.Beacons, code)
	for i, x := range m.Legs[:cap(m.Legs)] {
		if i < len(m.Legs) {
			add(x.Ticks, bitsOf(x.Velocity[:]...), x.Fix, x.Beacon)
		}
		m.Legs[:cap(m.Legs)][i] = impl.Leg{Ticks: 77}
	}
	add(impl.TicksOf(a.m))
	vecs(impl.TrackOf(a.m))
	add(impl.FixSensor())
	log(impl.RunMission(a.m, a.seed))
	number(impl.MissOf(a.m, a.seed))
	state(impl.FirstState(a.l))
	s, taken, code := impl.TakeEntry(a.l, a.s, a.e)
	add(taken)
	state(s, code)
	state(impl.ReplayLog(a.l))
	state(impl.ReplayFrom(a.l, a.s, a.from, a.to))
	list, code := impl.RefusedEntries(a.l)
	add(len(list), list, code)
	for i := range list[:cap(list)] {
		list[:cap(list)][i] = 77
	}
	add(impl.LogText(a.l))
	log(impl.ReadLog(a.logText))
	return out.String()
}

// withRoom returns a copy whose slices have room behind them.
func (a *vehicleArguments) withRoom() vehicleArguments {
	b := *a
	for _, m := range []*impl.Mission{&b.m, &b.n} {
		m.Beacons, m.Legs = roomy(m.Beacons, impl.Vec{55, 56, 57}), roomy(m.Legs, legOf(impl.Vec{58, 59, 60}, 61))
	}
	for _, l := range []*impl.Log{&b.l, &b.k} {
		l.Beacons, l.Entries = roomy(l.Beacons, impl.Vec{65, 66, 67}), roomy(l.Entries, rangeEntry(68, 69))
	}
	return b
}

// all writes the slices, with the room behind them.
func (a *vehicleArguments) all() string {
	text := ""
	for _, m := range []impl.Mission{a.m, a.n} {
		text += fmt.Sprint(m.Beacons[:len(m.Beacons)+3], m.Legs[:len(m.Legs)+3])
	}
	for _, l := range []impl.Log{a.l, a.k} {
		text += fmt.Sprint(l.Beacons[:len(l.Beacons)+3], l.Entries[:len(l.Entries)+3])
	}
	return text
}

// anyVehicle returns arguments of which some are not valid.
func (d *dice) anyVehicle() vehicleArguments {
	a := vehicleArguments{m: d.aMission(5), n: d.aMission(5), l: d.aLog(4), k: d.aLog(4), seed: uint32(d.next()), text: d.aMissionText(), fraction: d.aFraction()}
	a.s, a.e, a.logText = d.aStateNear(a.l), d.anEntry(a.l), rawLogText(a.k)
	a.from = int64(d.below(len(a.l.Entries) + 1))
	a.to = a.from + int64(d.below(len(a.l.Entries)+1-int(a.from)))
	if d.below(2) == 0 {
		a.n, a.k = missionLike(a.m), logLike(a.l)
	}
	switch d.below(12) {
	case 0:
		list := badMissions()
		a.m = list[d.below(len(list))]
	case 1:
		list := badMissions()
		a.n = list[d.below(len(list))]
	case 2:
		list := badLogs()
		a.l = list[d.below(len(list))]
	case 3:
		list := badLogs()
		a.k = list[d.below(len(list))]
	case 4:
		list := badStates()
		a.s = list[d.below(len(list))]
	case 5:
		list := badEntries(int64(len(a.l.Beacons)))
		a.e = list[d.below(len(list))]
	case 6:
		a.from, a.to = noIndices(8)[d.below(7)], noIndices(8)[d.below(7)]
	case 7:
		a.text, a.logText, a.fraction = a.text[:d.below(len(a.text)+1)], a.logText[:d.below(len(a.logText))], a.fraction+"0"
	}
	return a
}

func TestEqualVehiclesHaveEqualResults(t *testing.T) {
	d := &dice{seed: 450}
	list := make([]vehicleArguments, 1500)
	first := make([]string, len(list))
	for i := range list {
		list[i] = d.anyVehicle()
		first[i] = list[i].answers()
	}
	for i := len(list) - 1; i >= 0; i-- { // in another order, so that a state that is kept would be seen
		a := list[i].withRoom()
		before := a.all()
		if got := a.answers(); got != first[i] {
			t.Fatalf("other results for equal arguments:\n%s\n%s", first[i], got)
		}
		if after := a.all(); after != before {
			t.Fatalf("an argument was modified, or what lies behind it:\n%s\n%s", before, after)
		}
	}
}

// TestEverySpecialNumberOfVehicles puts each special number into each place: nothing
// may panic.
func TestEverySpecialNumberOfVehicles(t *testing.T) {
	d := &dice{seed: 451}
	for _, b := range specials() {
		for _, c := range specials() {
			a := d.anyVehicle()
			a.m = impl.Mission{Rate: 8, Start: impl.Vec{b, c, 0}, Beacons: []impl.Vec{{c, 0, b}}, Legs: []impl.Leg{{Ticks: 2, Velocity: impl.Vec{0, b, c}, Fix: 1}}}
			a.l = impl.Log{Rate: 8, Start: impl.Vec{b, c, 0}, Beacons: []impl.Vec{{c, 0, b}}, Entries: []impl.Entry{tickEntry(), moveEntry(b, 0, c), rangeEntry(0, b), fixEntry(1, 2, 3)}}
			a.from, a.to = 0, 4
			a.answers()
			a.m.Start, a.l.Start = impl.Vec{}, impl.Vec{}
			a.answers()
			a.m.Beacons[0], a.l.Beacons[0] = impl.Vec{}, impl.Vec{}
			a.answers()
			a.l.Entries[1].V, a.e = impl.Vec{}, moveEntry(b, c, 1)
			a.answers()
			a.l.Entries[2].Distance, a.e = 1, rangeEntry(0, c)
			a.s = impl.State{X: impl.Six{b, 0, c, b, 0, c}}
			a.answers()
			a.s = firstAt(impl.Vec{})
			a.s.S[1][0], a.s.S[3][3] = b, c
			a.answers()
		}
	}
}

// TestEveryIntegerOfVehicles puts great integers into each place.
func TestEveryIntegerOfVehicles(t *testing.T) {
	d := &dice{seed: 452}
	list := []int64{0, 1, -1, 2, 5, 63, 64, 65, 400, 401, 1200, 1201, 1 << 31, 1 << 32, -1 << 32, math.MaxInt64, math.MinInt64}
	for _, b := range list {
		for _, c := range list {
			a := d.anyVehicle()
			a.m = impl.Mission{Rate: b, Legs: []impl.Leg{{Ticks: c, Beacon: -1}}}
			a.l = impl.Log{Rate: c, Entries: []impl.Entry{{Kind: b}}}
			a.answers()
			a.m = impl.Mission{Rate: 8, Beacons: make([]impl.Vec, 2), Legs: []impl.Leg{{Ticks: b, Fix: c, Beacon: 1}, {Ticks: c, Fix: b, Beacon: -1}}}
			a.l = impl.Log{Rate: 8, Beacons: make([]impl.Vec, 2), Entries: []impl.Entry{tickEntry(), rangeEntry(b, 1)}}
			a.from, a.to = b, c
			a.answers()
			a.m.Legs = []impl.Leg{{Ticks: 3, Fix: b, Beacon: c}}
			a.l.Entries, a.e = a.l.Entries[:1], rangeEntry(c, 1)
			a.seed = uint32(b)
			a.answers()
			a.e = impl.Entry{Kind: b, Beacon: c}
			a.text = fmt.Sprintf("rate %d\nfix %d\nhold %d\nrange %d\nrepeat %d\nend", b, c, b, c, b)
			a.fraction = fmt.Sprintf("%d/%d", b, c)
			a.answers()
		}
	}
}

// TestLongVehicles has lists of many elements.
func TestLongVehicles(t *testing.T) {
	a := (&dice{seed: 453}).anyVehicle()
	a.m = impl.Mission{Rate: 8, Beacons: make([]impl.Vec, 100000), Legs: restingLegs(100000)}
	a.n, a.text = missionLike(a.m), strings.Repeat("repeat 16\n", 100000)
	a.l = impl.Log{Rate: 8, Beacons: make([]impl.Vec, 100000), Entries: slices.Repeat([]impl.Entry{tickEntry()}, 100000)}
	a.k, a.logText, a.fraction = logLike(a.l), strings.Repeat("tick\n", 200000), strings.Repeat("1/2", 300000)
	first := a.answers()
	wantBool(t, "equal results", a.answers() == first, true)
	wantBool(t, "SameMission of very great missions", impl.SameMission(a.m, a.n), true)
	wantBool(t, "SameLog of very great logs", impl.SameLog(a.l, a.k), true)
	a.n.Legs[99999].Ticks, a.k.Entries[99999].Distance = 2, 1
	wantBool(t, "SameMission of very great missions", impl.SameMission(a.m, a.n), false)
	wantBool(t, "SameLog of very great logs", impl.SameLog(a.l, a.k), false)
	wantBool(t, "ValidMission of a very great mission", impl.ValidMission(a.m), false)
	wantBool(t, "ValidLog of a very great log", impl.ValidLog(a.l), false)
}

// TestLogsAreTheirOwn changes a mission behind its log, and a log behind another one.
func TestLogsAreTheirOwn(t *testing.T) {
	m := impl.Mission{Rate: 8, Beacons: []impl.Vec{{3, 4, 0}}, Legs: []impl.Leg{{Ticks: 1}}}
	l, code := impl.RunMission(m, 1)
	want := again(t, missionLike(m), 1)
	want.Beacons = []impl.Vec{{3, 4, 0}}
	m.Beacons[0], m.Legs[0].Velocity = impl.Vec{9, 9, 9}, impl.Vec{9, 9, 9}
	wantLog(t, "RunMission", l, code, want, impl.OK)
	text := "beacon 1 2 3\nhold 1\n"
	first, _, _ := impl.CompileMission(text)
	first.Beacons[0], first.Legs[0].Ticks = impl.Vec{}, 77
	wantCompiled(t, text, impl.Mission{Rate: 8, Beacons: []impl.Vec{{1, 2, 3}}, Legs: []impl.Leg{legOf(impl.Vec{}, 1)}})
}
