package tests

import (
	"fmt"
	"math"
	"slices"
	"testing"

	"loop.example/g01204/impl"
)

func TestFirstStates(t *testing.T) {
	l := impl.Log{Rate: 8, Start: impl.Vec{1, minusZero, greatest}, Beacons: []impl.Vec{{1, 2, 3}}, Entries: []impl.Entry{moveEntry(5, 6, 7)}}
	want := impl.State{X: impl.Six{1, minusZero, greatest}}
	want.S[0][0], want.S[1][1], want.S[2][2] = 0.5, 0.5, 0.5
	want.S[3][3], want.S[4][4], want.S[5][5] = 1, 1, 1
	got, code := impl.FirstState(l)
	wantStateCode(t, "FirstState", got, code, want, impl.OK)
	d := &dice{seed: 430}
	for range 1000 {
		l := d.aLog(4)
		got, code := impl.FirstState(l)
		wantStateCode(t, "FirstState", got, code, firstOf(l), impl.OK)
	}
}

// firstAt returns the state before the first entry of a log that starts at a point.
func firstAt(at impl.Vec) impl.State { return firstOf(impl.Log{Start: at}) }

// sureAt returns a state that is sure of where it is.
func sureAt(at impl.Vec) impl.State { return impl.State{X: impl.Six{at[0], at[1], at[2]}} }

func TestTicksThatAreTaken(t *testing.T) {
	s := firstAt(impl.Vec{1, 2, 3})
	s.X[3], s.X[4], s.X[5] = 8, -16, 4
	for _, rate := range []int64{1, 2, 3, 8, 41, 64} {
		l := plainLog()
		l.Rate = rate
		want, code := impl.Predict(s, quotient(1, float32(rate)), impl.Vec{0.25, 0.25, 0.25})
		wantCode(t, "Predict", code, impl.OK)
		wantTakenEntry(t, fmt.Sprint("a tick at the rate ", rate), l, s, tickEntry(), want, true, impl.OK)
	}
	got, _, _ := impl.TakeEntry(plainLog(), s, tickEntry())
	wantVec(t, "position behind a tick", impl.PositionOf(got), impl.Vec{2, 0, 3.5})
	wantVec(t, "velocity behind a tick", impl.VelocityOf(got), impl.Vec{8, -16, 4})
	s.X[3], s.X[0] = greatest, greatest
	wantTakenEntry(t, "a tick that leads too far", plainLog(), s, tickEntry(), impl.State{}, false, impl.ErrState)
}

func TestMovesThatAreTaken(t *testing.T) {
	s := firstAt(impl.Vec{1, 2, 3})
	got, taken, code := impl.TakeEntry(plainLog(), s, moveEntry(65, -65, 130))
	wantBool(t, "a move is taken", taken && code == impl.OK, true)
	wantVec(t, "the velocity, nearly", impl.VelocityOf(got), impl.Vec{64, -64, 128}) // 65 times 1 / (1 + 1/64)
	wantVec(t, "the position stays", impl.PositionOf(got), impl.Vec{1, 2, 3})
	want := s
	for i, z := range []float32{65, -65, 130} {
		r, _ := impl.ClueAt(int64(3+i), z, 0.125)
		want, code = impl.Update(want, r)
		wantCode(t, "Update", code, impl.OK)
	}
	wantState(t, "a move", got, want)
	// However far off a velocity is, there is no gate.
	_, taken, code = impl.TakeEntry(plainLog(), s, moveEntry(1e18, 0, 0))
	wantBool(t, "a great move is taken", taken && code == impl.OK, true)
	for i := range 3 {
		over := s
		over.X[3+i] = -greatest
		e := moveEntry(0, 0, 0)
		e.V[i] = greatest
		wantTakenEntry(t, "a move that is too great", plainLog(), over, e, impl.State{}, false, impl.ErrState)
	}
}

func TestFixesThatAreTaken(t *testing.T) {
	s := firstAt(impl.Vec{1, 2, 3})
	got, taken, code := impl.TakeEntry(plainLog(), s, fixEntry(32, 32, 32))
	wantBool(t, "a fix is taken", taken && code == impl.OK, true)
	wantVec(t, "half of the way to 2, 2, 2", impl.PositionOf(got), impl.Vec{1.5, 2, 2.5})
	spread, code := impl.SpreadOf(got, 0)
	wantBool(t, "a fix makes it more certain", code == impl.OK && spread < 0.36, true)
	// Each of the three numbers may be too far off; the others are taken all the same.
	for mask := range 8 {
		e, want, all := fixEntry(32, 32, 32), s, true
		for i := range 3 {
			if mask>>i&1 == 1 {
				e.Counts[i], all = -1000, false
				continue
			}
			want, code = impl.Update(want, clueOf(i, 2, 0.5))
			wantCode(t, "Update", code, impl.OK)
		}
		wantTakenEntry(t, fmt.Sprint("a fix, too far off by ", mask), plainLog(), s, e, want, all, impl.OK)
	}
}

// TestFixesAtTheGate has fixes that are as far off as they may be, and a bit farther.
func TestFixesAtTheGate(t *testing.T) {
	s := sureAt(impl.Vec{0, 0, 0}) // whose shares are 1/4
	for i := range 3 {
		for _, sign := range []int16{1, -1} {
			e := fixEntry(0, 0, 0)
			e.Counts[i] = sign * 24 // 3/2
			wantTakenEntry(t, "a fix at the gate", plainLog(), s, e, s, true, impl.OK)
			e.Counts[i] = sign * 25
			wantTakenEntry(t, "a fix behind the gate", plainLog(), s, e, s, false, impl.OK)
		}
	}
	wantTakenEntry(t, "a fix, all at the gate", plainLog(), s, fixEntry(24, -24, 24), s, true, impl.OK)
	wantTakenEntry(t, "a fix, all behind the gate", plainLog(), s, fixEntry(32767, -32768, 25), s, false, impl.OK)
	for i := range 3 {
		over := s
		over.X[i] = greatest
		wantTakenEntry(t, "a fix of what is too far away", plainLog(), over, fixEntry(0, 0, 0), impl.State{}, false, impl.ErrState)
		over.X[i] = -1e30
		wantTakenEntry(t, "a fix of what is too far away", plainLog(), over, fixEntry(1, 2, 3), impl.State{}, false, impl.ErrState)
	}
	over := s
	over.X[2] = 1e30
	wantTakenEntry(t, "a fix that is refused before there is no gate", plainLog(), over, fixEntry(0, 32767, 0), impl.State{}, false, impl.ErrState)
}

func TestDistancesThatAreTaken(t *testing.T) {
	l := impl.Log{Rate: 8, Beacons: []impl.Vec{{3, 4, 0}, {0, 0, 0}, {0, 0, -6}, {1e30, 0, 0}}}
	s := firstAt(impl.Vec{})
	for i, far := range map[int64]float32{0: 4.5, 2: 7} {
		r, code := impl.RangeClue(s, l.Beacons[i], far, 0.5)
		wantCode(t, "RangeClue", code, impl.OK)
		want, code := impl.Update(s, r)
		wantCode(t, "Update", code, impl.OK)
		wantTakenEntry(t, "a distance", l, s, rangeEntry(i, far), want, true, impl.OK)
	}
	got, _, _ := impl.TakeEntry(l, s, rangeEntry(2, 7))
	wantVec(t, "half of the way from 6 to 7", impl.PositionOf(got), impl.Vec{0, 0, 0.5})
	wantTakenEntry(t, "a distance of 0", l, s, rangeEntry(1, 0), s, false, impl.OK) // the vehicle is at the beacon
	wantTakenEntry(t, "a distance that is not 0", l, s, rangeEntry(1, 3), s, false, impl.OK)
	wantTakenEntry(t, "an infinite distance", l, s, rangeEntry(3, 1e30), s, false, impl.OK)
	wantTakenEntry(t, "a distance that is far off", l, s, rangeEntry(0, 100), s, false, impl.OK)
	wantTakenEntry(t, "a distance less than 0 that is far off", l, s, rangeEntry(0, -100), s, false, impl.OK)
	sure := sureAt(impl.Vec{})
	wantTakenEntry(t, "a distance at the gate", l, sure, rangeEntry(0, 6.5), sure, true, impl.OK)
	wantTakenEntry(t, "a distance at the gate on the other side", l, sure, rangeEntry(2, 4.5), sure, true, impl.OK)
	wantTakenEntry(t, "a distance behind the gate", l, sure, rangeEntry(0, math.Nextafter32(6.5, 7)), sure, false, impl.OK)
	wantTakenEntry(t, "a distance behind the gate on the other side", l, sure, rangeEntry(2, math.Nextafter32(4.5, 4)), sure, false, impl.OK)
	wantTakenEntry(t, "a distance without a gate", l, s, rangeEntry(0, 1e30), impl.State{}, false, impl.ErrState)
	wantTakenEntry(t, "a distance without a gate", l, s, rangeEntry(0, -greatest), impl.State{}, false, impl.ErrState)
	l.Beacons[0] = impl.Vec{-1, 0, 0}
	away := firstAt(impl.Vec{greatest, 0, 0})
	wantTakenEntry(t, "the length is infinite", l, away, rangeEntry(0, 1), away, false, impl.OK)
}

// TestDistancesWithoutClues has vehicles that are so far away that the length of a
// difference is infinite, or the difference itself.
func TestDistancesWithoutClues(t *testing.T) {
	for _, x := range []struct{ at, beacon impl.Vec }{
		{impl.Vec{3e38, 0, 0}, impl.Vec{math.Nextafter32(3e38, 0), 0, 0}},
		{impl.Vec{0, -3e38, 3e38}, impl.Vec{0, -3e38, 2e38}},
		{impl.Vec{greatest, 0, 0}, impl.Vec{-greatest, 0, 0}},
		{impl.Vec{0, 0, 2e19}, impl.Vec{}},
		{impl.Vec{5, 6, 7}, impl.Vec{5, 6, 7}},
		{impl.Vec{}, impl.Vec{1e-23, 0, 0}},
		{impl.Vec{minusZero, 0, greatest}, impl.Vec{0, minusZero, greatest}},
	} {
		l, s := impl.Log{Rate: 8, Beacons: []impl.Vec{{}, x.beacon}}, firstAt(x.at)
		for _, far := range []float32{0, minusZero, 1, -1, 1e-23, 2e19, 1e38, greatest, -greatest} {
			_, code := impl.RangeClue(s, x.beacon, far, 0.5)
			wantCode(t, "RangeClue", code, impl.ErrState)
			wantTakenEntry(t, startOf("a distance without a clue ", x), l, s, rangeEntry(1, far), s, false, impl.OK)
		}
	}
}

// TestGreatDistances has great numbers everywhere.
func TestGreatDistances(t *testing.T) {
	d := &dice{seed: 431}
	great := func() float32 {
		by := []float32{1, 1e10, 1e18, 1e19, 1e26, greatest}[d.below(6)]
		return d.unit() * by
	}
	for range 20000 {
		at := vecFrom(great)
		l := impl.Log{Rate: 8, Beacons: []impl.Vec{at}}
		for i := range at {
			if d.below(2) == 0 {
				l.Beacons[0][i] = math.Nextafter32(at[i], d.whole(1))
			}
			if d.below(3) == 0 {
				l.Beacons[0][i] = great()
			}
		}
		s, e := firstAt(at), rangeEntry(0, []float32{greatest, -greatest, 1, great()}[d.below(4)])
		want, taken, wanted := takenBy(l, s, e)
		wantTakenEntry(t, startOf("TakeEntry ", l, s.X), l, s, e, want, taken, wanted)
	}
}

func TestEntriesThatAreNotTaken(t *testing.T) {
	l := plainLog(tickEntry())
	s := firstOf(l)
	each(badEntries(2), func(what string, e impl.Entry) {
		wantTakenEntry(t, "TakeEntry, "+what, l, s, e, impl.State{}, false, impl.ErrInvalid)
	})
	each(badStates(), func(what string, s impl.State) {
		for _, e := range goodEntries() {
			wantTakenEntry(t, "TakeEntry, "+what, l, s, e, impl.State{}, false, impl.ErrInvalid)
		}
		got, code := impl.ReplayFrom(l, s, 0, 1)
		wantStateCode(t, "ReplayFrom, "+what, got, code, impl.State{}, impl.ErrInvalid)
		got, code = impl.ReplayFrom(l, s, 0, 0)
		wantStateCode(t, "ReplayFrom of nothing, "+what, got, code, impl.State{}, impl.ErrInvalid)
		got, code = impl.ReplayFrom(l, s, 0, 2)
		wantStateCode(t, "ReplayFrom of too many, "+what, got, code, impl.State{}, impl.ErrInvalid)
	})
	none := impl.Log{Rate: 8}
	wantTakenEntry(t, "no beacon", none, s, rangeEntry(0, 1), impl.State{}, false, impl.ErrInvalid)
	for _, e := range goodEntries() {
		_, _, code := impl.TakeEntry(l, s, e)
		wantBool(t, startOf("a good entry ", e), code != impl.ErrInvalid, true)
	}
}

// aStateNear returns a valid state that is not far from where a log is.
func (d *dice) aStateNear(l impl.Log) impl.State {
	switch d.below(5) {
	case 0:
		return d.aState()
	case 1:
		return d.aPlainState()
	case 2:
		return firstOf(l)
	}
	s := d.aPlainState()
	for i := range l.Start {
		s.X[i] = sum(s.X[i], l.Start[i])
	}
	if !validState(s) {
		return firstOf(l)
	}
	return s
}

func TestEntriesAgain(t *testing.T) {
	d := &dice{seed: 432}
	type outcome struct {
		kind, code int64
		taken      bool
	}
	met := map[outcome]int{}
	for range 60000 {
		l := d.aLog(3)
		s, e := d.aStateNear(l), d.anEntry(l)
		want, taken, wanted := takenBy(l, s, e)
		wantTakenEntry(t, startOf("TakeEntry ", e, s.X), l, s, e, want, taken, wanted)
		if t.Failed() {
			return
		}
		met[outcome{e.Kind, wanted, taken}]++
	}
	for _, x := range []outcome{{1, 0, true}, {2, 0, true}, {3, 0, true}, {4, 0, true}, {3, 0, false}, {4, 0, false}, {1, impl.ErrState, false}, {2, impl.ErrState, false}, {3, impl.ErrState, false}, {4, impl.ErrState, false}} {
		if met[x] < 50 {
			t.Errorf("only %d entries with the outcome %v", met[x], x)
		}
	}
}

func wantReplayed(t *testing.T, what string, l impl.Log, s impl.State, from, to int64, want impl.State, wanted int64) {
	t.Helper()
	got, code := impl.ReplayFrom(l, s, from, to)
	wantStateCode(t, fmt.Sprint(what, ", from ", from, " to ", to), got, code, want, wanted)
}

func TestReplaysOfNothing(t *testing.T) {
	l := plainLog(tickEntry(), moveEntry(1, 0, 0), tickEntry())
	s := firstOf(l)
	s.X[3], s.X[4], s.S[1][0], s.S[0][3] = minusZero, 5, -0.25, minusZero
	for i := range int64(4) {
		wantReplayed(t, "ReplayFrom of nothing", l, s, i, i, s, impl.OK)
	}
	empty := plainLog()
	wantReplayed(t, "ReplayFrom without entries", empty, s, 0, 0, s, impl.OK)
	got, code := impl.ReplayLog(empty)
	wantStateCode(t, "ReplayLog without entries", got, code, firstOf(empty), impl.OK)
	list, code := impl.RefusedEntries(empty)
	wantIndex(t, "RefusedEntries without entries", int64(len(list)), code, 0, impl.OK)
}

func TestReplaysThatAreOutOfRange(t *testing.T) {
	l := plainLog(tickEntry(), moveEntry(1, 0, 0), tickEntry())
	s := firstOf(l)
	numbers := []int64{-1, 0, 1, 2, 3, 4, 5, math.MinInt64, math.MaxInt64, 1 << 32, -1 << 32}
	for _, from := range numbers {
		for _, to := range numbers {
			if from >= 0 && to <= 3 && from <= to {
				want, _, code := replayed(l, s, int(from), int(to))
				wantReplayed(t, "ReplayFrom", l, s, from, to, want, code)
				continue
			}
			wantReplayed(t, "ReplayFrom", l, s, from, to, impl.State{}, impl.ErrRange)
		}
	}
	over := s
	over.X[0], over.X[3] = greatest, greatest // no tick is finite, but the range is looked at first
	wantReplayed(t, "ReplayFrom that is not finite", l, over, 0, 1, impl.State{}, impl.ErrState)
	wantReplayed(t, "ReplayFrom that is not finite, and out of its range", l, over, 0, 4, impl.State{}, impl.ErrRange)
}

func TestReplaysThatAreNotFinite(t *testing.T) {
	over := impl.Log{Rate: 1, Start: impl.Vec{greatest, 0, 0}, Entries: []impl.Entry{tickEntry(), fixEntry(0, 0, 0), tickEntry()}}
	got, code := impl.ReplayLog(over)
	wantStateCode(t, "ReplayLog", got, code, impl.State{}, impl.ErrState)
	list, code := impl.RefusedEntries(over)
	wantIndex(t, "RefusedEntries", int64(len(list)), code, 0, impl.ErrState)
	wantBool(t, "RefusedEntries has none", len(list) == 0, true)
	s := firstOf(over)
	wantReplayed(t, "before the entry", over, s, 0, 1, first(takenBy(over, s, tickEntry())), impl.OK)
	wantReplayed(t, "with the entry", over, s, 1, 2, impl.State{}, impl.ErrState)
	wantReplayed(t, "behind the entry", over, s, 2, 3, first(takenBy(over, s, tickEntry())), impl.OK)
	// Entries that are refused before do not show.
	refused := impl.Log{Rate: 1, Start: impl.Vec{0, greatest, 0}, Entries: []impl.Entry{fixEntry(32767, 0, 0), tickEntry()}}
	list, code = impl.RefusedEntries(refused)
	wantIndex(t, "RefusedEntries", int64(len(list)), code, 0, impl.ErrState)
}

func first(s impl.State, taken bool, code int64) impl.State { return s }

func TestRefusedEntries(t *testing.T) {
	l := impl.Log{Rate: 8, Beacons: []impl.Vec{{3, 4, 0}, {}}, Entries: []impl.Entry{
		rangeEntry(1, 0), tickEntry(), fixEntry(1600, 0, 0), fixEntry(0, 0, 0), moveEntry(0, 0, 0), rangeEntry(0, 5.25), rangeEntry(0, 50), fixEntry(0, 0, -1600), tickEntry(),
	}}
	got, code := impl.RefusedEntries(l)
	want := []int64{0, 2, 6, 7}
	if !slices.Equal(got, want) {
		t.Errorf("RefusedEntries: got %v, want %v", got, want)
	}
	wantCode(t, "RefusedEntries", code, impl.OK)
	all := impl.Log{Rate: 8, Entries: slices.Repeat([]impl.Entry{fixEntry(0, 0, 1600)}, 1200)}
	got, code = impl.RefusedEntries(all)
	wantIndex(t, "RefusedEntries of all", int64(len(got)), code, 1200, impl.OK)
	for i, k := range got {
		wantBool(t, "each one", int64(i) == k, true)
	}
}

func TestReplaysAgain(t *testing.T) {
	d := &dice{seed: 433}
	codes, refusals := map[int64]int{}, 0
	for range 2500 {
		l := d.aLog(5)
		want, refused, wanted := replayed(l, firstOf(l), 0, len(l.Entries))
		got, code := impl.ReplayLog(l)
		wantStateCode(t, startOf("ReplayLog ", l), got, code, want, wanted)
		list, code := impl.RefusedEntries(l)
		if !slices.Equal(list, refused) {
			t.Errorf("RefusedEntries: got %v, want %v", list, refused)
		}
		wantCode(t, "RefusedEntries", code, wanted)
		s := d.aStateNear(l)
		from := d.below(len(l.Entries) + 1)
		to := from + d.below(len(l.Entries)+1-from)
		want, _, wanted = replayed(l, s, from, to)
		wantReplayed(t, startOf("ReplayFrom ", l), l, s, int64(from), int64(to), want, wanted)
		if t.Failed() {
			return
		}
		codes[wanted]++
		refusals += len(refused)
	}
	wantBool(t, "many codes, and many entries refused", codes[impl.OK] > 500 && codes[impl.ErrState] > 100 && refusals > 500, true)
}

// TestPartsGiveTheStateOfTheWhole is what is promised of replays.
func TestPartsGiveTheStateOfTheWhole(t *testing.T) {
	d := &dice{seed: 434}
	for range 150 {
		l := d.aLog(6)
		whole, code := impl.ReplayLog(l)
		start, _ := impl.FirstState(l)
		count := int64(len(l.Entries))
		for cut := range count + 1 {
			s, first := impl.ReplayFrom(l, start, 0, cut)
			if first != impl.OK {
				wantCode(t, "the first part", first, code)
				continue
			}
			wantReplayed(t, "two parts", l, s, cut, count, whole, code)
		}
		s, part := start, int64(impl.OK)
		for from := int64(0); from < count && part == impl.OK; {
			to := min(from+int64(d.below(4)), count)
			s, part = impl.ReplayFrom(l, s, from, to)
			from = to
		}
		wantStateCode(t, "several parts", s, part, whole, code)
		s, part = start, impl.OK
		var refused []int64
		for i, e := range l.Entries {
			next, taken, wrong := impl.TakeEntry(l, s, e)
			s, part = next, wrong
			if wrong != impl.OK {
				break
			}
			if !taken {
				refused = append(refused, int64(i))
			}
		}
		wantStateCode(t, "one by one", s, part, whole, code)
		list, _ := impl.RefusedEntries(l)
		wantBool(t, "those refused one by one", code != impl.OK || slices.Equal(list, refused), true)
		back, wrong := impl.ReadLog(impl.LogText(l))
		wantCode(t, "ReadLog", wrong, impl.OK)
		s, part = impl.ReplayLog(back)
		wantStateCode(t, "replayed from its text", s, part, whole, code)
	}
}

func TestMisses(t *testing.T) {
	d := &dice{seed: 435}
	codes := map[int64]int{}
	for range 2000 {
		m, seed := d.aMission(6), uint32(d.next()<<7^d.next())
		want, wanted := missAgain(m, seed)
		got, code := impl.MissOf(m, seed)
		wantNumberCode(t, startOf("MissOf ", m), got, code, want, wanted)
		codes[code]++
	}
	wantBool(t, "many codes", codes[impl.OK] > 500 && codes[impl.ErrState] > 100, true)
	miss, code := impl.MissOf(impl.Mission{Rate: 8, Start: impl.Vec{greatest, -greatest, 1}}, 1)
	wantNumberCode(t, "MissOf without legs", miss, code, 0, impl.OK)
	far := impl.Mission{Rate: 1, Legs: []impl.Leg{legOf(impl.Vec{1e25, 0, 0}, 1)}}
	l, code := impl.RunMission(far, 1)
	wantCode(t, "RunMission of what is missed by far", code, impl.OK)
	_, code = impl.ReplayLog(l)
	wantCode(t, "ReplayLog of what is missed by far", code, impl.OK)
	miss, code = impl.MissOf(far, 1)
	wantNumberCode(t, "MissOf that is infinite", miss, code, 0, impl.ErrState)
	far.Start = impl.Vec{greatest, 0, 0} // there is a track, and a log, but no state
	far.Legs = []impl.Leg{fixLeg(impl.Vec{}, 1, 1)}
	_, code = impl.RunMission(far, 1)
	wantCode(t, "RunMission without a state", code, impl.OK)
	miss, code = impl.MissOf(far, 1)
	wantNumberCode(t, "MissOf without a state", miss, code, 0, impl.ErrState)
}

// TestVehiclesThatTakeFixesKnowWhereTheyAre is one of the chapter's guarantees. The
// velocities change little: those that change much are learnt as if they had been so
// for some time, and move the position as well.
func TestVehiclesThatTakeFixesKnowWhereTheyAre(t *testing.T) {
	d := &dice{seed: 436}
	for range 2000 {
		m := impl.Mission{Rate: int64(4 + d.below(20)), Start: impl.Vec{d.whole(50), d.whole(50), d.whole(50)}, Beacons: []impl.Vec{{d.whole(90), d.whole(90), 7}, {d.whole(90), d.whole(90), -3}}}
		v := impl.Vec{d.unit() * 3, d.unit() * 3, d.unit()}
		for range 1 + d.below(8) {
			x := fixLeg(impl.Vec{v[0] + d.unit()/4, v[1] + d.unit()/4, v[2] + d.unit()/4}, int64(4+d.below(40)), int64(1+d.below(4)))
			x.Beacon = int64(d.below(3) - 1)
			m.Legs = append(m.Legs, x)
		}
		if !impl.ValidMission(m) {
			continue
		}
		miss, code := impl.MissOf(m, uint32(d.next()))
		wantCode(t, "MissOf", code, impl.OK)
		if miss >= 1 {
			t.Errorf("MissOf %v: %g", m, miss)
		}
	}
}
