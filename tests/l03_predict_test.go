package tests

import (
	"math"
	"testing"

	"loop.example/g01204/impl"
)

func wantPredicted(t *testing.T, what string, s impl.State, time float32, noise impl.Vec, want impl.State) {
	t.Helper()
	p, code := impl.Predict(s, time, noise)
	wantStateCode(t, what, p, code, want, impl.OK)
}

func wantNoPrediction(t *testing.T, what string, s impl.State, time float32, noise impl.Vec, want int64) {
	t.Helper()
	p, code := impl.Predict(s, time, noise)
	wantStateCode(t, what, p, code, impl.State{}, want)
}

func TestPredictions(t *testing.T) {
	s := spreadState(t, impl.Six{1, 2, 3, 4, -5, 6}, impl.Six{})
	want := s
	want.X = impl.Six{3, -0.5, 6, 4, -5, 6}
	wantPredicted(t, "a sure state", s, 0.5, impl.Vec{}, want)
	want.S[3][3], want.S[4][4], want.S[5][5] = 2, 4, 6 // noise, times the square root of 4
	want.X = impl.Six{17, -18, 27, 4, -5, 6}
	wantPredicted(t, "noise", s, 4, impl.Vec{1, 2, 3}, want)
	s = spreadState(t, impl.Six{}, impl.Six{3, 0, 0, 2, 0, 0})
	p, code := impl.Predict(s, 2, impl.Vec{1.5, 0, 0})
	wantCode(t, "Predict", code, impl.OK)
	wantNear(t, "the position", p.S[0][0], 5, 1e-6)
	wantNear(t, "the velocity, by the position", p.S[3][0], 2*4.0/5, 1e-6)
	wantNear(t, "the velocity", p.S[3][3], math.Sqrt(4+4.5-1.6*1.6), 1e-6)
}

func TestPredictionsOfNoTime(t *testing.T) {
	d := &dice{seed: 74}
	for range 1000 {
		s := d.aPlainState()
		wantPredicted(t, "a time of 0", s, 0, impl.Vec{1, 2, 3}, s)
		wantPredicted(t, "a time of -0", s, minusZero, vecFrom(d.zero), s)
	}
	s := impl.State{X: impl.Six{minusZero, minusZero, 0, 1, -1, minusZero}}
	s.S[0][3], s.S[3][3] = minusZero, 1
	want := s
	want.X[0], want.X[1] = 0, minusZero
	want.S[0][3] = 0
	wantPredicted(t, "-0, and 0 times the velocity", s, 0, impl.Vec{}, want)
	want.X[0], want.X[1] = minusZero, 0
	wantPredicted(t, "-0, and -0 times the velocity", s, minusZero, impl.Vec{}, want)
	s = ones(t)
	wantPredicted(t, "noise of -0", s, 0, impl.Vec{minusZero, minusZero, minusZero}, s)
	wantPredicted(t, "noise that is great", s, 0, impl.Vec{greatest, greatest, greatest}, s)
}

func TestNoPredictions(t *testing.T) {
	s := ones(t)
	for _, bad := range []float32{-1, -tiniest, -greatest, nan, otherNaN, infinite, -infinite} {
		wantNoPrediction(t, "a time that is none", s, bad, impl.Vec{}, impl.ErrRange)
		for i := range 3 {
			noise := impl.Vec{1, 0, 2}
			noise[i] = bad
			wantNoPrediction(t, "noise that is none", s, 1, noise, impl.ErrRange)
			wantNoPrediction(t, "noise that is none, and no time", s, 0, noise, impl.ErrRange)
		}
	}
	for _, bad := range badStates() {
		wantNoPrediction(t, "a state that is not valid", bad, 1, impl.Vec{}, impl.ErrInvalid)
		wantNoPrediction(t, "a state that is not valid, and no time", bad, -1, impl.Vec{nan, 0, 0}, impl.ErrInvalid)
	}
}

// TestPredictionsThatAreNotFinite: ErrState, also where LowerOf would return ErrInvalid.
func TestPredictionsThatAreNotFinite(t *testing.T) {
	for i := range 3 {
		s := ones(t)
		s.X[i+3] = -1e30
		wantNoPrediction(t, "a position that is too great", s, 1e10, impl.Vec{}, impl.ErrState)
		wantNoPrediction(t, "a position that is too great, and no noise", s, 1e10, impl.Vec{0, 0, -1}, impl.ErrRange)
		s = ones(t)
		s.X[i], s.X[i+3] = greatest, greatest
		wantNoPrediction(t, "a sum that is too great", s, 1, impl.Vec{}, impl.ErrState)
		s = ones(t)
		s.S[i+3][i+3] = 1e30
		wantNoPrediction(t, "a table that is not finite", s, 1e10, impl.Vec{}, impl.ErrState)
		noise := impl.Vec{}
		noise[i] = 1e30
		wantNoPrediction(t, "noise that becomes infinite", ones(t), 1e20, noise, impl.ErrState)
		s = ones(t)
		s.S[i][i], s.S[i+3][i+3] = 0, 1e-30
		wantNoPrediction(t, "a square root of 0", s, 1, impl.Vec{}, impl.ErrState)
		s.S[i+3][i+3] = 0
		noise[i] = 1e-30
		wantNoPrediction(t, "a square root of 0, of noise", s, 1, noise, impl.ErrState)
	}
	s := ones(t)
	s.S[5][0], s.S[5][3] = greatest, greatest
	wantNoPrediction(t, "a root that is not finite", s, 1, impl.Vec{}, impl.ErrState)
}

func TestPredictionsToTheLastBit(t *testing.T) {
	d := &dice{seed: 75}
	codes := map[int64]int{}
	for range 30000 {
		s, of := d.aState(), d.numbers()
		time, noise := of(), vecFrom(d.numbers())
		if d.below(8) > 0 {
			time = float32(math.Abs(float64(time)))
			for i := range noise {
				noise[i] = float32(math.Abs(float64(noise[i])))
			}
		}
		p, code := impl.Predict(s, time, noise)
		want, wanted := predicted(s, time, noise)
		wantStateCode(t, "Predict", p, code, want, wanted)
		codes[code]++
	}
	if codes[impl.OK] < 10000 || codes[impl.ErrState] < 100 || codes[impl.ErrRange] < 100 {
		t.Errorf("codes and how often they were: %v", codes)
	}
}

// TestPredictionsMoveStates holds the covariance against what wide numbers give.
func TestPredictionsMoveStates(t *testing.T) {
	d := &dice{seed: 76}
	for range 5000 {
		s := d.aPlainState()
		time := 1 + d.unit()
		noise := impl.Vec{1 + d.unit(), 1 + d.unit(), 1 + d.unit()}
		p, code := impl.Predict(s, time, noise)
		wantCode(t, "Predict", code, impl.OK)
		wantBool(t, "Predict returns a valid state", impl.ValidState(p), true)
		was, now := wideCovariance(s), wideCovariance(p)
		span := float64(time)
		for i := range 3 {
			wantNear(t, "the position", p.X[i], float64(s.X[i])+span*float64(s.X[i+3]), 1e-6)
			wantNumber(t, "the velocity", p.X[i+3], s.X[i+3])
			for j := range 3 {
				added := 0.0
				if i == j {
					added = float64(noise[i]) * float64(noise[i]) * span
				}
				wantWide(t, "positions", now[i][j], was[i][j]+span*(was[i+3][j]+was[i][j+3])+span*span*was[i+3][j+3])
				wantWide(t, "a velocity and a position", now[i+3][j], was[i+3][j]+span*was[i+3][j+3])
				wantWide(t, "velocities", now[i+3][j+3], was[i+3][j+3]+added)
			}
		}
	}
}

func wantWide(t *testing.T, what string, got, want float64) {
	t.Helper()
	if !(math.Abs(got-want) <= 1e-4) {
		t.Errorf("%s: got %g, want nearly %g", what, got, want)
	}
}
