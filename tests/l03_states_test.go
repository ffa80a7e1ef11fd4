package tests

import (
	"fmt"
	"math"
	"testing"

	"loop.example/g01204/impl"
)

func TestExampleOfChapter3(t *testing.T) {
	s := ones(t)
	r, code := impl.ClueAt(0, 2, 1)
	wantCode(t, "ClueAt", code, impl.OK)
	d, share, code := impl.DifferenceOf(s, r)
	wantNumberCode(t, "the difference", d, code, 2, impl.OK)
	wantNumber(t, "the share", share, 2)
	gate, code := impl.GateOf(s, r)
	wantNumberCode(t, "GateOf", gate, code, 2, impl.OK)
	u, code := impl.Update(s, r)
	wantCode(t, "Update", code, impl.OK)
	wantNumber(t, "X[0]", u.X[0], 1)
	spread, code := impl.SpreadOf(u, 0)
	wantCode(t, "SpreadOf", code, impl.OK)
	wantNear(t, "SpreadOf", spread, math.Sqrt(0.5), 1e-6)
	p, code := impl.Predict(s, 2, impl.Vec{})
	wantCode(t, "Predict", code, impl.OK)
	spread, code = impl.SpreadOf(p, 0)
	wantCode(t, "SpreadOf", code, impl.OK)
	wantNear(t, "SpreadOf", spread, math.Sqrt(5), 1e-6)
	wantBool(t, "MaxClues", impl.MaxClues == 256, true)
}

func TestStatesThatAreValid(t *testing.T) {
	d := &dice{seed: 70}
	for range 2000 {
		wantBool(t, "ValidState", impl.ValidState(d.aState()), true)
	}
	wantBool(t, "nothing but 0", impl.ValidState(impl.State{}), true)
	s := impl.State{X: impl.Six{greatest, -greatest, tiniest, minusZero, 0, -tiniest}}
	for i := range 6 {
		for j := range 6 {
			s.S[i][j] = minusZero
			if j < i {
				s.S[i][j] = -greatest
			}
		}
	}
	wantBool(t, "-0 above the diagonal and in it", impl.ValidState(s), true)
	for i, s := range badStates() {
		wantBool(t, fmt.Sprint("bad state ", i), impl.ValidState(s), false)
	}
}

// TestEachPlaceOfStates changes one number after another, which shows that each is looked at.
func TestEachPlaceOfStates(t *testing.T) {
	s := impl.State{X: impl.Six{1, 0, otherNaN, infinite, 5, 6}}
	for i := range 6 {
		for j := range 6 {
			s.S[i][j] = float32(i*6 + j - 7)
		}
	}
	same := s
	same.X[2] = nan
	wantBool(t, "SameState of states that are not valid", impl.SameState(s, same), true)
	for i := range 6 {
		for _, a := range []float32{-50, nan, minusZero} {
			u := s
			u.X[i] = a
			wantBool(t, "SameState, another number of X", impl.SameState(s, u), i == 2 && a != a)
			wantBool(t, "SameState, another number of X", impl.SameState(u, s), i == 2 && a != a)
			for j := range 6 {
				u := s
				u.S[i][j] = a
				wantBool(t, "SameState, another number of S", impl.SameState(s, u), false)
				wantBool(t, "SameState, another number of S", impl.SameState(u, s), false)
			}
		}
	}
	u, v := impl.State{}, impl.State{}
	v.S[0][5] = minusZero
	wantBool(t, "0 and -0 above the diagonal", impl.SameState(u, v), false)
}

func TestStatesOfSpreads(t *testing.T) {
	x, spread := impl.Six{1, minusZero, -3, 4, greatest, tiniest}, impl.Six{0, 2, minusZero, greatest, tiniest, 6}
	var want impl.State
	want.X = x
	for i := range 6 {
		want.S[i][i] = spread[i]
	}
	s, code := impl.StateOf(x, spread)
	wantStateCode(t, "StateOf", s, code, want, impl.OK)
	for i := range 6 {
		for _, a := range []float32{nan, infinite, -infinite} {
			bad := x
			bad[i] = a
			s, code := impl.StateOf(bad, spread)
			wantStateCode(t, "X that is not finite", s, code, impl.State{}, impl.ErrInvalid)
		}
		for _, a := range []float32{nan, infinite, -infinite, -1, -tiniest} {
			bad := spread
			bad[i] = a
			s, code := impl.StateOf(x, bad)
			wantStateCode(t, "a spread that is none", s, code, impl.State{}, impl.ErrInvalid)
		}
	}
}

func TestPlacesOfStates(t *testing.T) {
	for _, x := range []impl.Six{{1, 2, 3, 4, 5, 6}, {nan, minusZero, infinite, 0, otherNaN, -7}} {
		s := impl.State{X: x}
		s.S[0][3] = -1 // not valid, which is no matter
		wantVec(t, "PositionOf", impl.PositionOf(s), impl.Vec{x[0], x[1], x[2]})
		wantVec(t, "VelocityOf", impl.VelocityOf(s), impl.Vec{x[3], x[4], x[5]})
	}
}

// TestOrderOfCovariances has 2^24 and two times 1: from left to right both are
// lost, and from right to left they are kept.
func TestOrderOfCovariances(t *testing.T) {
	var s impl.State
	s.S[2] = impl.Six{4096, 1, 1, minusZero, 0, minusZero}
	s.S[4] = impl.Six{4096, 1, 1, 5, 7, minusZero}
	p, code := impl.CovarianceOf(s)
	wantCode(t, "CovarianceOf", code, impl.OK)
	wantNumber(t, "row 2, column 2", p[2][2], 1<<24)
	wantNumber(t, "row 2, column 4", p[2][4], 1<<24)
	wantNumber(t, "row 4, column 2", p[4][2], 1<<24)
	wantNumber(t, "row 4, column 4", p[4][4], 1<<24+72) // 25 and 49 are added, of which each leaves 1 less
	spread, code := impl.SpreadOf(s, 2)
	wantNumberCode(t, "SpreadOf", spread, code, 4096, impl.OK)
}

func TestCovariancesToTheLastBit(t *testing.T) {
	d := &dice{seed: 71}
	done := 0
	for range 20000 {
		s := d.aState()
		p, code := impl.CovarianceOf(s)
		want := covarianceOf(s)
		if finiteRoot(want) {
			wantRootCode(t, "CovarianceOf", p, code, want, impl.OK)
			done++
		} else {
			wantRootCode(t, "CovarianceOf", p, code, impl.Root{}, impl.ErrState)
		}
		for i := range 6 {
			spread, code := impl.SpreadOf(s, int64(i))
			if isFinite(want[i][i]) {
				wantNumberCode(t, "SpreadOf", spread, code, root(want[i][i]), impl.OK)
			} else {
				wantNumberCode(t, "SpreadOf", spread, code, 0, impl.ErrState)
			}
		}
	}
	if done < 10000 {
		t.Errorf("only %d covariances were finite", done)
	}
}

// TestZerosOfCovariances: a sum begins with its first number, not with 0.
func TestZerosOfCovariances(t *testing.T) {
	s := ones(t)
	s.S[3][0], s.S[4][0] = minusZero, -tiniest
	s.S[5][0], s.S[5][1] = minusZero, minusZero
	s.S[0][1], s.S[1][4] = minusZero, minusZero // not looked at
	p, code := impl.CovarianceOf(s)
	wantCode(t, "CovarianceOf", code, impl.OK)
	wantNumber(t, "row 0, column 1", p[0][1], 0)
	wantNumber(t, "row 3, column 0", p[3][0], minusZero)
	wantNumber(t, "row 0, column 3", p[0][3], minusZero)
	wantNumber(t, "row 4, column 3", p[4][3], 0)
	wantNumber(t, "row 5, column 1", p[5][1], minusZero)
}

func TestNoCovariances(t *testing.T) {
	for _, s := range badStates() {
		p, code := impl.CovarianceOf(s)
		wantRootCode(t, "a state that is not valid", p, code, impl.Root{}, impl.ErrInvalid)
		for _, index := range []int64{-1, 0, 5, 6} {
			spread, code := impl.SpreadOf(s, index)
			wantNumberCode(t, "a state that is not valid", spread, code, 0, impl.ErrInvalid)
		}
	}
	great := spreadState(t, impl.Six{}, impl.Six{1, 2, 3, 4, 1e20, 6})
	p, code := impl.CovarianceOf(great)
	wantRootCode(t, "a square that is too great", p, code, impl.Root{}, impl.ErrState)
	for index := range 6 {
		spread, code := impl.SpreadOf(great, int64(index))
		if index == 4 {
			wantNumberCode(t, "a square that is too great", spread, code, 0, impl.ErrState)
			continue
		}
		wantNumberCode(t, "another one is too great", spread, code, float32(index+1), impl.OK)
	}
	for _, index := range []int64{-1, 6, 7, -6, 256, 1 << 32, math.MaxInt64, math.MinInt64} {
		spread, code := impl.SpreadOf(ones(t), index)
		wantNumberCode(t, fmt.Sprint("index ", index), spread, code, 0, impl.ErrRange)
		spread, code = impl.SpreadOf(great, index)
		wantNumberCode(t, fmt.Sprint("index ", index), spread, code, 0, impl.ErrRange)
	}
	small := spreadState(t, impl.Six{}, impl.Six{tiniest, minusZero, 1e-22, 4, 5, 6})
	for index, want := range []float32{0, 0, root(product(1e-22, 1e-22)), 4, 5, 6} {
		spread, code := impl.SpreadOf(small, int64(index))
		wantNumberCode(t, "small spreads", spread, code, want, impl.OK)
	}
}
