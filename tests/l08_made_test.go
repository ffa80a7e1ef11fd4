package tests

import (
	"fmt"
	"math"
	"slices"
	"strings"
	"testing"

	"loop.example/g01204/impl"
)

// What the tests of chapter 8 need: missions, texts and logs, valid or not.

// legOf is a leg without fixes and beacons.
func legOf(v impl.Vec, ticks int64) impl.Leg {
	return impl.Leg{Ticks: ticks, Velocity: v, Beacon: -1}
}

// fixLeg is a leg with fixes.
func fixLeg(v impl.Vec, ticks, fix int64) impl.Leg {
	return impl.Leg{Ticks: ticks, Velocity: v, Fix: fix, Beacon: -1}
}

// restingLegs returns so many legs of one tick each.
func restingLegs(count int) []impl.Leg {
	return slices.Repeat([]impl.Leg{legOf(impl.Vec{}, 1)}, count)
}

// Entries of each kind.
func tickEntry() impl.Entry { return impl.Entry{Kind: impl.EnTick} }
func moveEntry(x, y, z float32) impl.Entry {
	return impl.Entry{Kind: impl.EnMove, V: impl.Vec{x, y, z}}
}
func fixEntry(a, b, c int16) impl.Entry {
	return impl.Entry{Kind: impl.EnFix, Counts: impl.Counts{a, b, c}}
}
func rangeEntry(i int64, a float32) impl.Entry {
	return impl.Entry{Kind: impl.EnRange, Beacon: i, Distance: a}
}

// plainLog has two beacons and some entries.
func plainLog(list ...impl.Entry) impl.Log {
	return impl.Log{Rate: 8, Start: impl.Vec{1, 2, 3}, Beacons: []impl.Vec{{4, 5, 6}, {-7, 8, 9}}, Entries: list}
}

// badVecs returns vectors that are not finite.
func badVecs() []impl.Vec {
	var list []impl.Vec
	for _, p := range badPoses() {
		list = append(list, impl.Vec(p))
	}
	return list
}

// badRates returns numbers that are no rates.
func badRates() []int64 {
	return []int64{0, -1, 65, 66, 1000, math.MinInt64, math.MaxInt64, 1<<32 + 8, -1 << 32}
}

// badMissions returns missions that are not valid, each one for a reason of its own.
func badMissions() []impl.Mission {
	var list []impl.Mission
	put := func(change func(m *impl.Mission)) {
		m := impl.Mission{Rate: 8, Beacons: []impl.Vec{{1, 2, 3}, {4, 5, 6}}, Legs: []impl.Leg{legOf(impl.Vec{1, 0, 0}, 8), legOf(impl.Vec{}, 2)}}
		change(&m)
		list = append(list, m)
	}
	for _, k := range badRates() {
		put(func(m *impl.Mission) { m.Rate = k })
	}
	for _, v := range badVecs() {
		put(func(m *impl.Mission) { m.Start = v })
		for i := range 2 {
			put(func(m *impl.Mission) { m.Beacons[i] = v })
			put(func(m *impl.Mission) { m.Legs[i].Velocity = v })
		}
	}
	put(func(m *impl.Mission) { m.Beacons = make([]impl.Vec, 7) })
	put(func(m *impl.Mission) { m.Legs = restingLegs(65) })
	put(func(m *impl.Mission) { m.Legs = []impl.Leg{legOf(impl.Vec{}, 400), legOf(impl.Vec{}, 1)} })
	put(func(m *impl.Mission) { m.Legs = append(restingLegs(63), legOf(impl.Vec{}, 338)) })
	put(func(m *impl.Mission) { m.Beacons, m.Legs[1].Beacon = nil, 0 })
	for i := range 2 {
		for _, k := range []int64{0, -1, 401, 1000, math.MinInt64, math.MaxInt64, math.MaxInt64 - 1, 1<<32 + 1, -1 << 32} {
			put(func(m *impl.Mission) { m.Legs[i].Ticks = k })
			if k != 0 {
				put(func(m *impl.Mission) { m.Legs[i].Fix = k })
			}
		}
		for _, k := range []int64{-2, 2, 3, math.MinInt64, math.MaxInt64, 1 << 32, -1 << 32} {
			put(func(m *impl.Mission) { m.Legs[i].Beacon = k })
		}
	}
	return list
}

// badEntries returns entries that are not valid with so many beacons, each one for
// a reason of its own.
func badEntries(beacons int64) []impl.Entry {
	var list []impl.Entry
	for _, k := range []int64{0, -1, 5, 6, math.MinInt64, math.MaxInt64, 1<<32 + 1, -1 << 32, 257} {
		list = append(list, impl.Entry{Kind: k})
	}
	for _, v := range badVecs() {
		list = append(list, impl.Entry{Kind: impl.EnMove, V: v})
	}
	for _, a := range []float32{infinite, -infinite, nan, otherNaN} {
		list = append(list, rangeEntry(0, a))
	}
	for _, k := range noIndices(int(beacons)) {
		list = append(list, rangeEntry(k, 1))
	}
	good := []impl.Entry{tickEntry(), moveEntry(1, 0, 2), fixEntry(1, 0, 2), rangeEntry(0, 1)}
	for _, e := range good {
		put := func(change func(e *impl.Entry), unused bool) {
			d := e
			if change(&d); unused {
				list = append(list, d)
			}
		}
		for i := range 3 {
			for _, a := range []float32{1, minusZero, tiniest, nan, infinite} {
				put(func(e *impl.Entry) { e.V[i] = a }, e.Kind != impl.EnMove)
			}
			for _, n := range []int16{1, -1, 32767, -32768, 256} {
				put(func(e *impl.Entry) { e.Counts[i] = n }, e.Kind != impl.EnFix)
			}
		}
		for _, k := range []int64{1, -1, 1 << 32, math.MinInt64} {
			put(func(e *impl.Entry) { e.Beacon = k }, e.Kind != impl.EnRange)
		}
		for _, a := range []float32{1, minusZero, tiniest, nan, infinite} {
			put(func(e *impl.Entry) { e.Distance = a }, e.Kind != impl.EnRange)
		}
	}
	return list
}

// badLogs returns logs that are not valid, each one for a reason of its own.
func badLogs() []impl.Log {
	var list []impl.Log
	put := func(change func(l *impl.Log)) {
		l := plainLog(tickEntry(), rangeEntry(1, 2))
		change(&l)
		list = append(list, l)
	}
	for _, k := range badRates() {
		put(func(l *impl.Log) { l.Rate = k })
	}
	for _, v := range badVecs() {
		put(func(l *impl.Log) { l.Start = v })
		for i := range 2 {
			put(func(l *impl.Log) { l.Beacons[i] = v })
		}
	}
	put(func(l *impl.Log) { l.Beacons = make([]impl.Vec, 7) })
	put(func(l *impl.Log) { l.Beacons = l.Beacons[:1] })
	put(func(l *impl.Log) { l.Beacons = nil })
	put(func(l *impl.Log) { l.Entries = slices.Repeat(l.Entries[:1], 1201) })
	for i, e := range badEntries(2) {
		put(func(l *impl.Log) { l.Entries[i%2] = e })
	}
	return list
}

// aRoom returns what makes numbers of missions: fractions, small ones, great ones
// or any that are finite.
func (d *dice) aRoom() func() float32 {
	switch d.below(8) {
	case 0:
		return d.unit
	case 1:
		return func() float32 { return d.unit() * 300 }
	case 2:
		return d.finite
	case 3:
		by := float32(math.Ldexp(1, d.below(250)-125))
		return func() float32 { return d.unit() * by }
	}
	return func() float32 { return d.whole(40) / 8 }
}

// aMission returns a valid mission with at most so many legs.
func (d *dice) aMission(most int) impl.Mission {
	of := d.aRoom()
	m := impl.Mission{Rate: []int64{1, 2, 8, 64, int64(1 + d.below(64))}[d.below(5)], Start: vecFrom(d.often(of))}
	for range d.below(7) {
		m.Beacons = append(m.Beacons, vecFrom(of))
	}
	if d.below(8) == 0 {
		of = d.aRoom()
	}
	for range d.below(most + 1) {
		x := fixLeg(vecFrom(d.often(of)), int64(1+d.below(12)), int64(d.below(6)))
		if len(m.Beacons) > 0 {
			x.Beacon = int64(d.below(len(m.Beacons)+1) - 1)
		}
		if d.below(10) == 0 {
			x.Ticks, x.Fix = int64(1+d.below(60)), int64(d.below(401))
		}
		if ticksAgain(m)+x.Ticks <= 400 {
			m.Legs = append(m.Legs, x)
		}
	}
	return m
}

// anEntry returns an entry that is valid with the beacons of a log.
func (d *dice) anEntry(l impl.Log) impl.Entry {
	of := d.aRoom()
	switch d.below(4) {
	case 0:
		return impl.Entry{Kind: impl.EnMove, V: vecFrom(of)}
	case 1:
		c := d.counts()
		if d.below(3) > 0 {
			c = countsOf(sensorOfFixes(), l.Start)
			for i := range c {
				c[i] = int16(max(min(int(c[i])+d.below(60)-30, 32767), -32768))
			}
		}
		return impl.Entry{Kind: impl.EnFix, Counts: c}
	case 2:
		if len(l.Beacons) > 0 {
			i := d.below(len(l.Beacons))
			far := farBetween(l.Beacons[i], l.Start)
			if d.below(3) == 0 || !isFinite(far) {
				far = of()
			}
			return rangeEntry(int64(i), far)
		}
	}
	return tickEntry()
}

// aLog returns a valid log, which need not be that of a mission.
func (d *dice) aLog(most int) impl.Log {
	m := d.aMission(most)
	if l, code := logged(m, uint32(d.next())); code == impl.OK && d.below(2) == 0 {
		return l
	}
	l := impl.Log{Rate: m.Rate, Start: m.Start, Beacons: m.Beacons}
	for range d.below(4 * most) {
		l.Entries = append(l.Entries, d.anEntry(l))
	}
	return l
}

// aFraction returns the text of a fraction.
func (d *dice) aFraction() string {
	text := fmt.Sprint(d.below([]int{2, 10, 100, 1000000}[d.below(4)]))
	if d.below(3) == 0 {
		text = "-" + text
	}
	if d.below(2) == 0 {
		text += fmt.Sprint("/", 2<<d.below(10))
	}
	return text
}

// aLine returns a line of a mission.
func (d *dice) aLine() string {
	three := func() string { return d.aFraction() + " " + d.aFraction() + " " + d.aFraction() }
	small := func(most int) int { return d.below(most + 1) }
	switch d.below(12) {
	case 0:
		return fmt.Sprint("rate ", small(66))
	case 1:
		return "start " + three()
	case 2, 3:
		return "beacon " + three()
	case 4:
		return fmt.Sprint("fix ", small(6))
	case 5:
		return fmt.Sprint("fix ", small(410))
	case 6, 7:
		return fmt.Sprint("move ", three(), " ", small(5))
	case 8:
		return fmt.Sprint("hold ", small(9))
	case 9, 10:
		return fmt.Sprint("range ", small(3))
	}
	list := []string{"", "end", "what", "move 1 2 3", "hold", "hold 01", "hold 1 ", " hold 1", "Hold 1", "hold 1000000", "hold -1", "beacon 1/3 0 0", "repeat 0", "repeat 17", "rate 65", "rate 0", "hold 401", "range 6"}
	return list[d.below(len(list))]
}

// aScript returns lines of a mission, with repeats among them.
func (d *dice) aScript(most, deep int) []string {
	var lines []string
	for range d.below(most + 1) {
		if d.below(5) > 0 || deep == 0 {
			lines = append(lines, d.aLine())
			continue
		}
		lines = append(lines, fmt.Sprint("repeat ", 1+d.below(4)))
		lines = append(lines, d.aScript(most/2, deep-1)...)
		if d.below(15) > 0 {
			lines = append(lines, "end")
		}
	}
	return lines
}

// aMissionText returns the text of a mission, which may have errors.
func (d *dice) aMissionText() string {
	text := strings.Join(d.aScript(2+d.below(14), 4), "\n")
	if d.below(2) == 0 {
		text += "\n"
	}
	return text
}

func wantMission(t *testing.T, what string, got impl.Mission, line, code int64, want impl.Mission, wantedLine, wantedCode int64) {
	t.Helper()
	if !sameMission(got, want) {
		t.Errorf("%s: got %s, want %s", what, startOf(got), startOf(want))
	}
	if line != wantedLine {
		t.Errorf("%s: got line %d, want %d", what, line, wantedLine)
	}
	wantCode(t, what, code, wantedCode)
}

// wantCompiled holds CompileMission against a mission without an error.
func wantCompiled(t *testing.T, text string, want impl.Mission) {
	t.Helper()
	got, line, code := impl.CompileMission(text)
	wantMission(t, startOf("CompileMission ", text), got, line, code, want, 0, impl.OK)
}

// wantMistake holds CompileMission against an error.
func wantMistake(t *testing.T, text string, line, code int64) {
	t.Helper()
	got, gotLine, gotCode := impl.CompileMission(text)
	wantMission(t, startOf("CompileMission ", text), got, gotLine, gotCode, impl.Mission{}, line, code)
}

func wantLog(t *testing.T, what string, got impl.Log, code int64, want impl.Log, wanted int64) {
	t.Helper()
	if !sameLog(got, want) {
		t.Errorf("%s: got %s, want %s", what, startOf(got), startOf(want))
	}
	wantCode(t, what, code, wanted)
}

func wantEntries(t *testing.T, what string, got []impl.Entry, want ...impl.Entry) {
	t.Helper()
	if !slices.EqualFunc(got, want, sameEntry) {
		t.Errorf("%s: got %s, want %s", what, startOf(got), startOf(want))
	}
}

func wantTakenEntry(t *testing.T, what string, l impl.Log, s impl.State, e impl.Entry, want impl.State, wantedTaken bool, wanted int64) {
	t.Helper()
	got, taken, code := impl.TakeEntry(l, s, e)
	wantStateCode(t, what, got, code, want, wanted)
	wantBool(t, what+" is taken", taken, wantedTaken)
}
