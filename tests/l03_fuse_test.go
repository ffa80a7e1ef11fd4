package tests

import (
	"math"
	"testing"

	"loop.example/g01204/impl"
)

// stair returns the root with a in the diagonal and b below it.
func stair(a, b float32) impl.Root {
	var r impl.Root
	for i := range 6 {
		r[i][i] = a
		for j := range i {
			r[i][j] = b
		}
	}
	return r
}

func TestInversesOfRoots(t *testing.T) {
	r, code := impl.InverseRoot(spreadState(t, impl.Six{1, 2, 3, 4, 5, 6}, impl.Six{1, 2, 4, 0.5, 0.25, 8}))
	want := stair(0, minusZero) // the opposite of 0
	want[0][0], want[1][1], want[2][2], want[3][3], want[4][4], want[5][5] = 1, 0.5, 0.25, 2, 4, 0.125
	wantRootCode(t, "a diagonal", r, code, want, impl.OK)
	r, code = impl.InverseRoot(impl.State{S: stair(1, 1)})
	want = stair(1, minusZero)
	for i := 1; i < 6; i++ {
		want[i][i-1] = -1
	}
	wantRootCode(t, "nothing but 1", r, code, want, impl.OK)
	s := impl.State{S: stair(2, 0)}
	s.S[5] = impl.Six{8, 16, minusZero, 0, 32, 4}
	s.S[0][5], s.S[3][4] = minusZero, minusZero // not looked at
	r, code = impl.InverseRoot(s)
	want = stair(0.5, minusZero)
	want[5] = impl.Six{-1, -2, 0, minusZero, -4, 0.25} // the sums of the columns 2 and 3 are -0 and 0
	wantRootCode(t, "a row", r, code, want, impl.OK)
	// From j on: 2^24, 1 and 1, of which the last two are lost.
	s = impl.State{S: stair(1, 0)}
	s.S[1][0], s.S[2][0] = -1, -1
	s.S[3] = impl.Six{1 << 24, 1, 1, 1, 0, 0}
	r, code = impl.InverseRoot(s)
	wantCode(t, "InverseRoot", code, impl.OK)
	wantNumber(t, "row 3, column 0", r[3][0], -1<<24)
}

func TestNoInversesOfRoots(t *testing.T) {
	for _, bad := range badStates() {
		r, code := impl.InverseRoot(bad)
		wantRootCode(t, "a state that is not valid", r, code, impl.Root{}, impl.ErrInvalid)
	}
	for i := range 6 {
		for _, a := range []float32{0, minusZero, tiniest, 1e-39} { // 1e39 is too great
			s := ones(t)
			s.S[i][i] = a
			r, code := impl.InverseRoot(s)
			wantRootCode(t, "0 in the diagonal, nearly", r, code, impl.Root{}, impl.ErrState)
			s.S[5][0] = 7
			r, code = impl.InverseRoot(s)
			wantRootCode(t, "0 in the diagonal, nearly", r, code, impl.Root{}, impl.ErrState)
		}
	}
	s := ones(t)
	s.S[1][0], s.S[2][1] = greatest, greatest
	r, code := impl.InverseRoot(s)
	wantRootCode(t, "a product that is too great", r, code, impl.Root{}, impl.ErrState)
	s = ones(t)
	s.S[4][3], s.S[4][4] = 1e20, 1e-20
	r, code = impl.InverseRoot(s)
	wantRootCode(t, "a quotient that is too great", r, code, impl.Root{}, impl.ErrState)
	r, code = impl.InverseRoot(spreadState(t, impl.Six{}, impl.Six{greatest, 1, 1, 1, 1, 1}))
	want := stair(1, minusZero)
	want[0][0] = quotient(1, greatest)
	wantRootCode(t, "a subnormal number", r, code, want, impl.OK)
}

func TestInversesToTheLastBit(t *testing.T) {
	d := &dice{seed: 85}
	codes := map[int64]int{}
	for i := range 20000 {
		s := d.aState()
		if i%3 == 0 {
			s = d.aPlainState()
		}
		r, code := impl.InverseRoot(s)
		want, wanted := inverseOf(s)
		wantRootCode(t, "InverseRoot", r, code, want, wanted)
		codes[code]++
	}
	if codes[impl.OK] < 5000 || codes[impl.ErrState] < 1000 {
		t.Errorf("codes and how often they were: %v", codes)
	}
}

func TestInversesLeadBack(t *testing.T) {
	d := &dice{seed: 86}
	for range 2000 {
		s := d.aPlainState()
		r, code := impl.InverseRoot(s)
		wantCode(t, "InverseRoot", code, impl.OK)
		size := 0.0
		for i := range 6 {
			for _, a := range r[i] {
				size = max(size, math.Abs(float64(a)))
			}
		}
		for i := range 6 {
			for j := range 6 {
				at, want := 0.0, 0.0
				for k := range 6 {
					at += float64(s.S[i][k]) * float64(r[k][j])
				}
				if i == j {
					want = 1
				}
				if math.Abs(at-want) > 1e-5*size {
					t.Errorf("InverseRoot of %v: row %d, column %d of the product is %g", s, i, j, at)
				}
			}
		}
	}
}

func TestStatesThatAreFused(t *testing.T) {
	s := spreadState(t, impl.Six{1, 2, 3, 4, 5, 6}, impl.Six{1, 1, 1, 1, 1, 2})
	u := spreadState(t, impl.Six{3, 2, 1, 0, 5, 0}, impl.Six{1, 1, 1, 1, 0.5, 1})
	f, code := impl.FuseStates(s, u)
	wantCode(t, "FuseStates", code, impl.OK)
	half := math.Sqrt(0.5)
	for i, want := range []float64{2, 2, 2, 2, 5, 1.2} {
		wantNear(t, "X", f.X[i], want, 1e-6)
		wantNear(t, "the spread", f.S[i][i], []float64{half, half, half, half, math.Sqrt(0.2), math.Sqrt(0.8)}[i], 1e-6)
	}
	sure := spreadState(t, impl.Six{1, 2, 3, 4, 5, 6}, impl.Six{})
	f, code = impl.FuseStates(sure, u)
	wantStateCode(t, "what is sure", f, code, sure, impl.OK)
}

func TestStatesThatAreNotFused(t *testing.T) {
	s := ones(t)
	none := func(what string, s, u impl.State, want int64) {
		t.Helper()
		f, code := impl.FuseStates(s, u)
		wantStateCode(t, what, f, code, impl.State{}, want)
	}
	apart := func(what string, s, u impl.State, want int64) {
		t.Helper()
		far, code := impl.DistanceBetween(s, u)
		wantNumberCode(t, what, far, code, 0, want)
	}
	for i := range 6 {
		for _, a := range []float32{0, minusZero, 1e-39} {
			u := ones(t)
			u.S[i][i] = a
			none("0 in the diagonal, nearly", s, u, impl.ErrState)
			apart("0 in the diagonal, nearly", s, u, impl.ErrState)
			for _, bad := range badStates() {
				none("a first state that is not valid", bad, u, impl.ErrInvalid)
				apart("a first state that is not valid", bad, u, impl.ErrInvalid)
			}
		}
	}
	for _, bad := range badStates() {
		none("a second state that is not valid", s, bad, impl.ErrInvalid)
		apart("a second state that is not valid", s, bad, impl.ErrInvalid)
		none("two states that are not valid", bad, bad, impl.ErrInvalid)
		apart("two states that are not valid", bad, bad, impl.ErrInvalid)
	}
	far := spreadState(t, impl.Six{0, 0, 0, 0, 0, greatest}, impl.Six{1, 1, 1, 1, 1, 0.5})
	none("a clue that would not be valid", s, far, impl.ErrState)
	apart("a sum that is too great", s, far, impl.ErrState)
	back := spreadState(t, impl.Six{0, 0, 0, 0, 0, -greatest}, impl.Six{1, 1, 1, 1, 1, 1})
	far = spreadState(t, impl.Six{0, 0, 0, 0, 0, greatest}, impl.Six{1, 1, 1, 1, 1, 1})
	none("a difference that is too great", back, far, impl.ErrState)
	apart("a difference that is too great", back, far, impl.ErrState)
	far.X[5] = 1e20
	apart("a square that is too great", s, far, impl.ErrState)
	s.S[0][0], s.S[3][0] = 1e20, 1e20
	none("a table that is not finite", s, spreadState(t, impl.Six{}, impl.Six{1e-20, 1, 1, 1, 1, 1}), impl.ErrState)
}

func TestFusionsToTheLastBit(t *testing.T) {
	d := &dice{seed: 87}
	codes := map[int64]int{}
	for i := range 20000 {
		s, u := d.aState(), d.aState()
		if i%3 == 0 {
			u = d.aPlainState()
		}
		if i%6 == 0 {
			s = d.aPlainState()
		}
		f, code := impl.FuseStates(s, u)
		want, wanted := fused(s, u)
		wantStateCode(t, "FuseStates", f, code, want, wanted)
		codes[code]++
		far, code := impl.DistanceBetween(s, u)
		wantFar, wanted := distanceOf(s, u)
		wantNumberCode(t, "DistanceBetween", far, code, wantFar, wanted)
		codes[code]++
	}
	if codes[impl.OK] < 10000 || codes[impl.ErrState] < 1000 {
		t.Errorf("codes and how often they were: %v", codes)
	}
}

// TestFusedStatesKnowMore: with P and Q for the covariances, that of both is P less P * (P + Q)^-1 * P,
// which is at most P and at most Q.
func TestFusedStatesKnowMore(t *testing.T) {
	d := &dice{seed: 88}
	for range 2000 {
		s, u := d.aPlainState(), d.aPlainState()
		for i := range 6 {
			s.S[i][i]++
			u.S[i][i]++
		}
		f, code := impl.FuseStates(s, u)
		wantCode(t, "FuseStates", code, impl.OK)
		back, code := impl.FuseStates(u, s)
		wantCode(t, "FuseStates", code, impl.OK)
		one, other := wideCovariance(f), wideCovariance(back)
		for i := range 6 {
			wantNear(t, "X, the other way round", f.X[i], float64(back.X[i]), 1e-4)
			for j := range 6 {
				wantWide(t, "the covariance, the other way round", one[i][j], other[i][j])
			}
			spread, _ := impl.SpreadOf(f, int64(i))
			first, _ := impl.SpreadOf(s, int64(i))
			second, _ := impl.SpreadOf(u, int64(i))
			wantBool(t, "the spread is at most that of each", spread <= min(first, second)*(1+1e-5), true)
		}
	}
}

func TestDistancesOfStates(t *testing.T) {
	s := spreadState(t, impl.Six{1, 2, 3, 4, 5, 6}, impl.Six{})
	u := spreadState(t, impl.Six{1, 2, 3, 4, 5, 6}, impl.Six{1, 2, 3, 4, 5, 6})
	far, code := impl.DistanceBetween(s, u)
	wantNumberCode(t, "no distance", far, code, 0, impl.OK)
	far, code = impl.DistanceBetween(u, s)
	wantNumberCode(t, "no distance from what is sure", far, code, 0, impl.ErrState)
	s.X[1], s.X[4] = 8, -15
	far, code = impl.DistanceBetween(s, u)
	wantNumberCode(t, "3 times 2, and 4 times 5", far, code, 5, impl.OK)
	u.S[4][1] = 2
	far, code = impl.DistanceBetween(s, u)
	wantCode(t, "DistanceBetween", code, impl.OK)
	wantNear(t, "a number that depends on another one", far, math.Hypot(3, (-20-3*2)/5.0), 1e-6)
	// 4096, 1 and 1, of which the squares of the last two are lost.
	s, u = ones(t), ones(t)
	s.X = impl.Six{4096, 1, 1, 0, 0, 0}
	far, code = impl.DistanceBetween(s, u)
	wantNumberCode(t, "the order of the squares", far, code, 4096, impl.OK)
	s.X = impl.Six{0, 0, 0, 1 << 24, 1, 1}
	u.S[5][3], u.S[5][4] = -1, -1
	far, code = impl.DistanceBetween(s, u)
	again, _ := distanceOf(s, u)
	wantNumberCode(t, "the order of the sums", far, code, again, impl.OK)
	wantNear(t, "the order of the sums", far, math.Sqrt2*(1<<24), 2)
}
