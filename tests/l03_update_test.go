package tests

import (
	"math"
	"slices"
	"testing"

	"loop.example/g01204/impl"
)

func clueAt(t *testing.T, index int64, z, noise float32) impl.Clue {
	t.Helper()
	r, code := impl.ClueAt(index, z, noise)
	wantCode(t, "ClueAt", code, impl.OK)
	return r
}

func wantNoUpdate(t *testing.T, what string, s impl.State, r impl.Clue, want int64) {
	t.Helper()
	u, code := impl.Update(s, r)
	wantStateCode(t, what, u, code, impl.State{}, want)
	u, code = impl.UpdateAll(s, []impl.Clue{r})
	wantStateCode(t, what, u, code, impl.State{}, want)
}

func wantUpdated(t *testing.T, what string, s impl.State, r impl.Clue, want impl.State) {
	t.Helper()
	u, code := impl.Update(s, r)
	wantStateCode(t, what, u, code, want, impl.OK)
	again, code := updated(s, r)
	wantStateCode(t, what+", reckoned once more", again, code, want, impl.OK)
}

func TestUpdates(t *testing.T) {
	u, code := impl.Update(ones(t), clueAt(t, 4, -2, 1))
	want := ones(t)
	want.X[4] = -1
	b := quotient(1, sum(1, root(0.5)))
	want.S[4][4] = difference(1, quotient(b, 2))
	wantStateCode(t, "a clue of one number", u, code, want, impl.OK)
	s := ones(t)
	s.S[0][0] = minusZero // it is sure of the first number
	want = s
	want.S[0][0] = 0 // -0 less -0
	wantUpdated(t, "what is sure", s, clueAt(t, 0, 5, 1), want)
}

// TestOrderOfUpdates has 2^24 and two times 1 in a sum g[3]: from left to right
// both are lost.
func TestOrderOfUpdates(t *testing.T) {
	var s impl.State
	s.S[0][0], s.S[1][1], s.S[2][2] = 1, 1, 1
	s.S[3] = impl.Six{1 << 24, 1, 1, 0, minusZero, 0}
	s.S[4] = impl.Six{1, 1, 1 << 24, minusZero, 0, 0}
	r := impl.Clue{H: impl.Six{1, 1, 1, 0, 0, 0}, Z: 4, Noise: 1} // the difference and the share are 4
	u, code := impl.Update(s, r)
	wantCode(t, "Update", code, impl.OK)
	wantNumber(t, "X[3]", u.X[3], 1<<24)
	wantNumber(t, "X[4]", u.X[4], 1<<24+2)
	wantNumber(t, "X[0]", u.X[0], 1)
}

// TestOrderOfFactors has numbers for which another order of a product would not be finite, or 0.
func TestOrderOfFactors(t *testing.T) {
	s := spreadState(t, impl.Six{}, impl.Six{1e-10, 0, 0, 0, 0, 0})
	u, code := impl.Update(s, impl.Clue{H: impl.Six{1e-10}, Z: 1e20, Noise: 1e-19})
	want, wanted := updated(s, impl.Clue{H: impl.Six{1e-10}, Z: 1e20, Noise: 1e-19})
	wantStateCode(t, "the quotient of the difference and the share is infinite", u, code, want, wanted)
	wantCode(t, "it", code, impl.ErrState) // g times the difference, divided by the share, would be finite
	s = spreadState(t, impl.Six{}, impl.Six{1e19, 0, 0, 0, 0, 0})
	u, code = impl.Update(s, impl.Clue{H: impl.Six{1}, Z: 1e30, Noise: 1e18})
	wantCode(t, "g times the difference would be infinite", code, impl.OK)
	wantNear(t, "X[0]", u.X[0], 1e30/1.01, 1e24)
	wantNear(t, "the spread", u.S[0][0], 1e19*math.Sqrt(0.01/1.01), 1e14)
}

func TestGreatAndSmallNoise(t *testing.T) {
	s := ones(t)
	for _, noise := range []float32{1e5, 1e10, 1e19} {
		u, code := impl.Update(s, clueAt(t, 2, 1, noise))
		wantCode(t, "Update with a great noise", code, impl.OK)
		wantNear(t, "X[2]", u.X[2], 0, 1e-9)
		wantBool(t, "what tells nothing changes nothing", sameRoot(u.S, s.S), true)
		wantNear(t, "X[2]", u.X[2], 1/float64(noise)/float64(noise), 1e-15)
	}
	for _, noise := range []float32{1e20, greatest} {
		wantNoUpdate(t, "a noise whose square is infinite", s, clueAt(t, 2, 1, noise), impl.ErrState)
	}
	want := s
	want.X[2], want.S[2][2] = 3, 0
	for _, noise := range []float32{1e-20, 1e-30, tiniest} {
		wantUpdated(t, "a small noise", s, clueAt(t, 2, 3, noise), want)
	}
	u, code := impl.Update(s, clueAt(t, 2, 3, 1.0/1024))
	wantCode(t, "Update with a smaller noise than that which is", code, impl.OK)
	wantNear(t, "the spread", u.S[2][2], 1.0/1024, 1e-6)
	wantNear(t, "X[2]", u.X[2], 3, 1e-5)
	wantNoUpdate(t, "a share of 0", want, clueAt(t, 2, 3, 1e-30), impl.ErrState)
	wantNoUpdate(t, "a share of 0, and a difference", want, clueAt(t, 2, 5, 1e-30), impl.ErrState)
	wantNoUpdate(t, "a share that is too small for e", want, clueAt(t, 2, 5, 1e-22), impl.ErrState)
	wantUpdated(t, "what is sure, a small noise", want, clueAt(t, 2, 5, 1e-18), want)
}

// TestInfiniteShares: where g is finite, all that is returned is finite.
func TestInfiniteShares(t *testing.T) {
	s := ones(t)
	s.X[0] = minusZero
	r := impl.Clue{H: impl.Six{1e20}, Z: 1e20, Noise: 1}
	want := s
	want.X[0] = 0 // the quotient of the difference and the share is 0
	wantUpdated(t, "an infinite share", s, r, want)
	u, yes, code := impl.UpdateGated(s, impl.Clue{H: impl.Six{1e20}, Z: 1, Noise: 1}, 0)
	wantStateCode(t, "an infinite share", u, code, want, impl.OK)
	wantBool(t, "an infinite share", yes, true)
	s.S[3][0] = 1e20
	wantNoUpdate(t, "an infinite share and an infinite g", s, r, impl.ErrState)
}

func TestNoUpdates(t *testing.T) {
	s, r := ones(t), impl.Clue{H: impl.Six{1}, Z: 2, Noise: 1}
	for _, bad := range badStates() {
		wantNoUpdate(t, "a state that is not valid", bad, r, impl.ErrInvalid)
		u, yes, code := impl.UpdateGated(bad, r, nan)
		wantStateCode(t, "a state that is not valid", u, code, impl.State{}, impl.ErrInvalid)
		wantBool(t, "a state that is not valid", yes, false)
		u, code = impl.UpdateAll(bad, nil)
		wantStateCode(t, "a state that is not valid", u, code, impl.State{}, impl.ErrInvalid)
	}
	for _, bad := range badClues() {
		wantNoUpdate(t, "a clue that is not valid", s, bad, impl.ErrInvalid)
		u, yes, code := impl.UpdateGated(s, bad, -1)
		wantStateCode(t, "a clue that is not valid", u, code, impl.State{}, impl.ErrInvalid)
		wantBool(t, "a clue that is not valid", yes, false)
	}
	far := s
	far.X[0] = -greatest
	wantNoUpdate(t, "an infinite difference", far, impl.Clue{H: impl.Six{1}, Z: greatest, Noise: 1}, impl.ErrState)
	far.X[0], far.X[1], far.S[1][0] = 0, greatest, 1e9
	wantNoUpdate(t, "X that becomes infinite", far, impl.Clue{H: impl.Six{1}, Z: 3e30, Noise: 1}, impl.ErrState)
	wide := ones(t)
	wide.S[5][0] = 3e38
	wantNoUpdate(t, "a table that is not finite", wide, impl.Clue{H: impl.Six{0, 0, 0, 0, 0, 10}, Z: 1, Noise: 1}, impl.ErrState)
	small := spreadState(t, impl.Six{}, impl.Six{1e-30, 1e-23, 1e-23, 0, 0, 0})
	wantNoUpdate(t, "a square root of 0", small, impl.Clue{H: impl.Six{1, 1, 1}, Z: 0, Noise: 1e-22}, impl.ErrState)
}

func TestUpdatesToTheLastBit(t *testing.T) {
	d := &dice{seed: 81}
	codes := map[int64]int{}
	for i := range 30000 {
		s, r := d.aState(), d.aClue()
		if i%3 == 0 {
			s, r = d.aPlainState(), d.aPlainClue()
		}
		u, code := impl.Update(s, r)
		want, wanted := updated(s, r)
		wantStateCode(t, "Update", u, code, want, wanted)
		codes[code]++
	}
	if codes[impl.OK] < 10000 || codes[impl.ErrState] < 1000 {
		t.Errorf("codes and how often they were: %v", codes)
	}
}

// TestWhatIsLearntMakesNothingMoreUncertain holds updates against what wide numbers give.
func TestWhatIsLearntMakesNothingMoreUncertain(t *testing.T) {
	d := &dice{seed: 82}
	for i := range 5000 {
		s, r := d.aPlainState(), d.aPlainClue()
		if i%2 == 0 {
			r = clueAt(t, int64(d.below(6)), d.unit(), 0.75+d.unit()/2)
		}
		u, code := impl.Update(s, r)
		wantCode(t, "Update", code, impl.OK)
		wantBool(t, "Update returns a valid state", impl.ValidState(u), true)
		was, now := wideCovariance(s), wideCovariance(u)
		var ph [6]float64
		share, off := float64(r.Noise)*float64(r.Noise), float64(r.Z)
		for i := range 6 {
			for j := range 6 {
				ph[i] += was[i][j] * float64(r.H[j])
			}
			share += ph[i] * float64(r.H[i])
			off -= float64(r.H[i]) * float64(s.X[i])
		}
		for i := range 6 {
			wantNear(t, "X", u.X[i], float64(s.X[i])+ph[i]*off/share, 2e-5)
			for j := range 6 {
				wantWide(t, "the covariance", now[i][j], was[i][j]-ph[i]*ph[j]/share)
			}
			before, one := impl.SpreadOf(s, int64(i))
			behind, two := impl.SpreadOf(u, int64(i))
			wantCode(t, "SpreadOf", one+two, impl.OK)
			if behind > before*(1+1e-5) {
				t.Errorf("Update %v, %v: the spread of %d was %g and is %g", s, r, i, before, behind)
			}
		}
		_, before, one := impl.DifferenceOf(s, r)
		_, behind, two := impl.DifferenceOf(u, r)
		wantCode(t, "DifferenceOf", one+two, impl.OK)
		wantBool(t, "the share is less", behind < before, true)
	}
}

func TestGates(t *testing.T) {
	s, r := ones(t), clueAt(t, 0, 2, 1)
	u, code := impl.Update(s, r)
	wantCode(t, "Update", code, impl.OK)
	gated := func(what string, gate float32, want impl.State, taken bool, wanted int64) {
		t.Helper()
		got, yes, code := impl.UpdateGated(s, r, gate)
		wantStateCode(t, what, got, code, want, wanted)
		wantBool(t, what, yes, taken)
	}
	gated("just GateOf", 2, u, true, impl.OK)
	gated("more", math.Nextafter32(2, 3), u, true, impl.OK)
	gated("infinite", infinite, u, true, impl.OK)
	gated("the greatest", greatest, u, true, impl.OK)
	gated("hardly less", math.Nextafter32(2, 1), s, false, impl.OK)
	gated("0", 0, s, false, impl.OK)
	gated("-0", minusZero, s, false, impl.OK)
	for _, bad := range []float32{-1, -tiniest, -infinite, nan, otherNaN} {
		gated("less than 0, or NaN", bad, impl.State{}, false, impl.ErrRange)
	}
	r.Z = 0
	u, code = impl.Update(s, r)
	wantCode(t, "Update", code, impl.OK)
	gated("no difference", 0, u, true, impl.OK)
	gated("no difference, -0", minusZero, u, true, impl.OK)
	r.Z = 1e20
	gated("GateOf is infinite", infinite, impl.State{}, false, impl.ErrState)
	gated("GateOf is infinite", 1, impl.State{}, false, impl.ErrState)
	gated("GateOf is infinite, and no gate", -1, impl.State{}, false, impl.ErrRange)
	s.X[1], s.S[1][0] = greatest, 1e15
	r.Z = 1e18
	gated("X that becomes infinite", infinite, impl.State{}, false, impl.ErrState)
	gated("X that would become infinite", 1, s, false, impl.OK)
	gated("X that would become infinite, and no gate", nan, impl.State{}, false, impl.ErrRange)
	s = ones(t)
	s.S[0][5], s.S[2][4], s.X[3] = minusZero, minusZero, minusZero
	r.Z = 3
	gated("the state as it is", 1, s, false, impl.OK)
}

func TestGatesToTheLastBit(t *testing.T) {
	d := &dice{seed: 83}
	taken, left := 0, 0
	for i := range 20000 {
		s, r := d.aState(), d.aClue()
		if i%3 == 0 {
			s, r = d.aPlainState(), d.aPlainClue()
		}
		gate := float32(math.Abs(float64(d.unit())))
		off, code := gateOf(s, r)
		if code == impl.OK && i%2 == 0 {
			gate = off // just so much
		}
		u, yes, got := impl.UpdateGated(s, r, gate)
		switch {
		case code != impl.OK:
			wantStateCode(t, "no gate", u, got, impl.State{}, code)
			wantBool(t, "no gate", yes, false)
		case off > gate:
			wantStateCode(t, "far off", u, got, s, impl.OK)
			wantBool(t, "far off", yes, false)
			left++
		default:
			want, wanted := updated(s, r)
			wantStateCode(t, "within the gate", u, got, want, wanted)
			wantBool(t, "within the gate", yes, wanted == impl.OK)
			taken++
		}
	}
	if taken < 2000 || left < 1000 {
		t.Errorf("%d clues were taken, and %d left", taken, left)
	}
}

func TestManyClues(t *testing.T) {
	s := ones(t)
	s.S[0][3], s.X[1] = minusZero, minusZero
	for _, none := range [][]impl.Clue{nil, {}} {
		u, code := impl.UpdateAll(s, none)
		wantStateCode(t, "no clue", u, code, s, impl.OK)
	}
	d := &dice{seed: 84}
	list := make([]impl.Clue, impl.MaxClues+1)
	for i := range list {
		list[i] = d.aPlainClue()
	}
	for _, count := range []int{1, 2, 7, 100, impl.MaxClues} {
		want := s
		for _, r := range list[:count] {
			want, _ = updated(want, r)
		}
		u, code := impl.UpdateAll(s, list[:count])
		wantStateCode(t, "UpdateAll", u, code, want, impl.OK)
	}
	u, code := impl.UpdateAll(s, list)
	wantStateCode(t, "one more", u, code, impl.State{}, impl.ErrLimit)
	u, code = impl.UpdateAll(s, slices.Repeat(list[:1], 100000))
	wantStateCode(t, "very many", u, code, impl.State{}, impl.ErrLimit)
	for _, i := range []int{0, 5, impl.MaxClues} {
		bad := slices.Clone(list)
		bad[i].Noise = 0
		u, code = impl.UpdateAll(s, bad)
		wantStateCode(t, "one more, and one that is not valid", u, code, impl.State{}, impl.ErrInvalid)
		u, code = impl.UpdateAll(s, bad[i:])
		wantStateCode(t, "the first one is not valid", u, code, impl.State{}, impl.ErrInvalid)
		bad[0] = clueAt(t, 0, 1, 1e20) // ErrState, if it came to it
		bad[i].Noise = nan
		u, code = impl.UpdateAll(s, bad[:i+1])
		wantStateCode(t, "the last one is not valid", u, code, impl.State{}, impl.ErrInvalid)
	}
	bad := slices.Clone(list)
	for _, i := range []int{0, 5, impl.MaxClues - 1} {
		bad[i] = clueAt(t, 0, 1, 1e20)
		u, code = impl.UpdateAll(s, bad[:i+1])
		wantStateCode(t, "a noise that is too great", u, code, impl.State{}, impl.ErrState)
		u, code = impl.UpdateAll(s, bad[:impl.MaxClues])
		wantStateCode(t, "a noise that is too great, and others behind it", u, code, impl.State{}, impl.ErrState)
		u, code = impl.UpdateAll(s, bad)
		wantStateCode(t, "a noise that is too great, and one clue more", u, code, impl.State{}, impl.ErrLimit)
		bad[i] = list[i]
	}
}
