package tests

import (
	"fmt"
	"math"
	"testing"

	"loop.example/g01204/impl"
)

func TestCluesThatAreValid(t *testing.T) {
	d := &dice{seed: 77}
	for range 2000 {
		wantBool(t, "ValidClue", impl.ValidClue(d.aClue()), true)
	}
	h := impl.Six{greatest, -greatest, minusZero, tiniest, 0, -1}
	wantBool(t, "the least noise", impl.ValidClue(impl.Clue{H: h, Z: minusZero, Noise: tiniest}), true)
	wantBool(t, "the greatest noise", impl.ValidClue(impl.Clue{Z: -greatest, Noise: greatest}), true)
	wantBool(t, "no clue", impl.ValidClue(impl.Clue{}), false)
	for i, r := range badClues() {
		wantBool(t, fmt.Sprint("bad clue ", i), impl.ValidClue(r), false)
	}
}

func TestCluesOfNumbers(t *testing.T) {
	for index := range 6 {
		var h impl.Six
		h[index] = 1
		for _, z := range []float32{0, minusZero, -3, tiniest, greatest} {
			r, code := impl.ClueAt(int64(index), z, 0.25)
			wantClueCode(t, "ClueAt", r, code, impl.Clue{H: h, Z: z, Noise: 0.25}, impl.OK)
		}
		for _, bad := range badClues() {
			if bad.H[0] == 1 && sameSix(bad.H, impl.Six{1}) {
				r, code := impl.ClueAt(int64(index), bad.Z, bad.Noise)
				wantClueCode(t, "a clue that is not valid", r, code, impl.Clue{}, impl.ErrInvalid)
			}
		}
	}
	for _, index := range []int64{-1, 6, 7, -6, 256, 1 << 32, math.MaxInt64, math.MinInt64} {
		r, code := impl.ClueAt(index, 1, 1)
		wantClueCode(t, fmt.Sprint("index ", index), r, code, impl.Clue{}, impl.ErrRange)
		r, code = impl.ClueAt(index, nan, 0)
		wantClueCode(t, fmt.Sprint("index ", index, " of what is no clue"), r, code, impl.Clue{}, impl.ErrRange)
	}
}

func wantNoRange(t *testing.T, what string, s impl.State, from impl.Vec, distance, noise float32, want int64) {
	t.Helper()
	r, code := impl.RangeClue(s, from, distance, noise)
	wantClueCode(t, what, r, code, impl.Clue{}, want)
}

func wantNoBearing(t *testing.T, what string, s impl.State, from impl.Vec, bearing, noise float32, want int64) {
	t.Helper()
	r, code := impl.BearingClue(s, from, bearing, noise)
	wantClueCode(t, what, r, code, impl.Clue{}, want)
}

func TestCluesOfDistances(t *testing.T) {
	s := spreadState(t, impl.Six{4, 6, 9, -7, 8, -9}, impl.Six{1, 1, 1, 1, 1, 1})
	r, code := impl.RangeClue(s, impl.Vec{1, 2, 9}, 6, 0.5)
	h := impl.Six{quotient(3, 5), quotient(4, 5)}
	z := sum(1, sum(product(h[0], 4), product(h[1], 6)))
	wantClueCode(t, "3 and 4", r, code, impl.Clue{H: h, Z: z, Noise: 0.5}, impl.OK)
	d, _, code := impl.DifferenceOf(s, r)
	wantCode(t, "DifferenceOf", code, impl.OK)
	wantNear(t, "6 less 5", d, 1, 1e-6)
	r, code = impl.RangeClue(s, impl.Vec{4, 6, 10}, 0, 1)
	wantClueCode(t, "one axis", r, code, impl.Clue{H: impl.Six{0, 0, -1}, Z: -10, Noise: 1}, impl.OK)
	r, code = impl.RangeClue(s, impl.Vec{4, 6, 10}, -3, tiniest)
	wantClueCode(t, "a distance less than 0", r, code, impl.Clue{H: impl.Six{0, 0, -1}, Z: -13, Noise: tiniest}, impl.OK)
}

// TestOrderOfDistances: the length is taken away from the distance first, and
// then the sum of the products is added.
func TestOrderOfDistances(t *testing.T) {
	s := spreadState(t, impl.Six{1 << 24, 0, 0, 0, 0, 0}, impl.Six{})
	r, code := impl.RangeClue(s, impl.Vec{1<<24 - 2, 0, 0}, 3, 1)
	wantClueCode(t, "2^24 and 1", r, code, impl.Clue{H: impl.Six{1}, Z: 1 << 24, Noise: 1}, impl.OK) // 2^24 + 3 - 2 would be 2^24 + 2
	s.X[0] = minusZero
	r, code = impl.RangeClue(s, impl.Vec{-1, 0, 0}, 1, 1)
	wantClueCode(t, "0 and -0", r, code, impl.Clue{H: impl.Six{1}, Z: 0, Noise: 1}, impl.OK)
}

func TestNoCluesOfDistances(t *testing.T) {
	s := spreadState(t, impl.Six{1, 2, 3, 4, 5, 6}, impl.Six{1, 1, 1, 1, 1, 1})
	for _, noise := range []float32{1, 0, nan} {
		wantNoRange(t, "the position itself", s, impl.Vec{1, 2, 3}, 1, noise, impl.ErrState)
		wantNoRange(t, "the position itself, and no distance", s, impl.Vec{1, 2, 3}, nan, noise, impl.ErrState)
		for i := range 3 {
			for _, bad := range []float32{nan, infinite, -infinite, 1e20, -greatest} {
				from := impl.Vec{}
				from[i] = bad
				wantNoRange(t, "a point that is too far", s, from, 1, noise, impl.ErrState)
			}
		}
	}
	near := s
	near.X[2] = 0
	wantNoRange(t, "nearly the position itself", near, impl.Vec{1, 2, 1e-30}, 1, 1, impl.ErrState)
	for _, bad := range []float32{nan, infinite, -infinite} {
		wantNoRange(t, "a distance that is none", s, impl.Vec{}, bad, 1, impl.ErrInvalid)
		wantNoRange(t, "noise that is none", s, impl.Vec{}, 1, bad, impl.ErrInvalid)
	}
	for _, bad := range []float32{0, minusZero, -1, -tiniest} {
		wantNoRange(t, "noise that is not greater than 0", s, impl.Vec{}, 1, bad, impl.ErrInvalid)
	}
	for _, bad := range badStates() {
		wantNoRange(t, "a state that is not valid", bad, impl.PositionOf(bad), nan, -1, impl.ErrInvalid)
		wantNoRange(t, "a state that is not valid", bad, impl.Vec{9, 9, 9}, 1, 1, impl.ErrInvalid)
	}
}

func TestCluesOfBearings(t *testing.T) {
	s := spreadState(t, impl.Six{3, 4, 9, 7, -8, 9}, impl.Six{1, 1, 1, 1, 1, 1})
	quarter := angleOf(1, 0)
	for _, c := range []struct {
		from    impl.Vec
		bearing float32
		h       impl.Six
		off     float32
	}{
		{impl.Vec{3, 0, nan}, 2, impl.Six{-0.25, 0}, difference(2, quarter)},                         // 4 ahead on the second axis
		{impl.Vec{3, 6, 0}, 0, impl.Six{0.5, 0}, quarter},                                            // 2 behind
		{impl.Vec{1, 4, infinite}, 1, impl.Six{minusZero, 0.5}, 1},                                   // 2 ahead on the first axis
		{impl.Vec{7, 4, -infinite}, -3, impl.Six{minusZero, -0.25}, wrapOf(difference(-3, impl.Pi))}, // 4 behind
		{impl.Vec{1, 4, 0}, 7, impl.Six{minusZero, 0.5}, wrapOf(7)},
		{impl.Vec{3, 6, 0}, 3, impl.Six{0.5, 0}, wrapOf(sum(3, quarter))}, // the difference is more than Pi
		{impl.Vec{1, 4, 0}, minusZero, impl.Six{minusZero, 0.5}, 0},
	} {
		r, code := impl.BearingClue(s, c.from, c.bearing, 2)
		want := impl.Clue{H: c.h, Z: sum(c.off, sum(product(c.h[0], 3), product(c.h[1], 4))), Noise: 2}
		wantClueCode(t, fmt.Sprint("from ", c.from), r, code, want, impl.OK)
		d, _, code := impl.DifferenceOf(s, r)
		wantCode(t, "DifferenceOf", code, impl.OK)
		wantNear(t, "the difference", d, float64(c.off), 1e-6)
	}
}

func TestNoCluesOfBearings(t *testing.T) {
	s := spreadState(t, impl.Six{1, 2, 3, 4, 5, 6}, impl.Six{1, 1, 1, 1, 1, 1})
	for _, noise := range []float32{1, 0, nan} {
		for _, bearing := range []float32{1, infinite} {
			wantNoBearing(t, "the position itself", s, impl.Vec{1, 2, 3}, bearing, noise, impl.ErrState)
			wantNoBearing(t, "a point below the position", s, impl.Vec{1, 2, -3}, bearing, noise, impl.ErrState)
			for i := range 2 {
				for _, bad := range []float32{nan, infinite, -infinite, 1e20, -greatest} {
					from := impl.Vec{}
					from[i] = bad
					wantNoBearing(t, "a point that is too far", s, from, bearing, noise, impl.ErrState)
				}
			}
		}
	}
	small := spreadState(t, impl.Six{1e-30, -1e-30, 0, 0, 0, 0}, impl.Six{})
	wantNoBearing(t, "nearly the position itself", small, impl.Vec{}, 1, 1, impl.ErrState)
	for _, bad := range []float32{nan, infinite, -infinite} {
		wantNoBearing(t, "a bearing that is none", s, impl.Vec{}, bad, 1, impl.ErrInvalid)
		wantNoBearing(t, "noise that is none", s, impl.Vec{}, 1, bad, impl.ErrInvalid)
	}
	for _, bad := range []float32{0, minusZero, -1, -tiniest} {
		wantNoBearing(t, "noise that is not greater than 0", s, impl.Vec{}, 1, bad, impl.ErrInvalid)
	}
	far := spreadState(t, impl.Six{greatest, 1e-22, 0, 0, 0, 0}, impl.Six{})
	wantNoBearing(t, "a Z that is too great", far, impl.Vec{greatest, 0, 0}, 1, 1, impl.ErrInvalid)
	for _, bad := range badStates() {
		wantNoBearing(t, "a state that is not valid", bad, impl.PositionOf(bad), nan, -1, impl.ErrInvalid)
		wantNoBearing(t, "a state that is not valid", bad, impl.Vec{9, 9, 9}, 1, 1, impl.ErrInvalid)
	}
}

func TestCluesToTheLastBit(t *testing.T) {
	d := &dice{seed: 78}
	codes := map[int64]int{}
	for i := range 30000 {
		s, from, z, noise := d.aState(), vecFrom(d.numbers()), d.numbers()(), float32(math.Abs(float64(d.numbers()())))
		if i%3 == 0 {
			s, z = d.aPlainState(), d.anAngle()
		}
		if i%10 == 0 {
			from = vecFrom(d.any)
		}
		r, code := impl.RangeClue(s, from, z, noise)
		want, wanted := rangeClue(s, from, z, noise)
		wantClueCode(t, "RangeClue", r, code, want, wanted)
		codes[code]++
		r, code = impl.BearingClue(s, from, z, noise)
		want, wanted = bearingClue(s, from, z, noise)
		wantClueCode(t, "BearingClue", r, code, want, wanted)
		codes[code]++
	}
	if codes[impl.OK] < 20000 || codes[impl.ErrState] < 1000 || codes[impl.ErrInvalid] < 1000 {
		t.Errorf("codes and how often they were: %v", codes)
	}
}

// TestCluesAreSeenWhereTheyAre: a clue that tells the truth has nearly no
// difference, also after the position has moved a little.
func TestCluesAreSeenWhereTheyAre(t *testing.T) {
	d := &dice{seed: 79}
	for range 5000 {
		s := d.aPlainState()
		from := impl.Vec{s.X[0] + 2 + d.unit(), s.X[1] - 2 + d.unit(), s.X[2] + d.unit()}
		moved := s
		for i := range 3 {
			moved.X[i] += d.unit() / 64
		}
		place := impl.PositionOf(moved)
		r, code := impl.RangeClue(s, from, impl.LengthOf(impl.SubVec(impl.PositionOf(s), from)), 0.5)
		wantCode(t, "RangeClue", code, impl.OK)
		wantDifference(t, "the distance", s, r, 0, 2e-6)
		wantNear(t, "the size of H", impl.LengthOf(impl.Vec{r.H[0], r.H[1], r.H[2]}), 1, 1e-6)
		far := float64(impl.LengthOf(impl.SubVec(place, from)) - impl.LengthOf(impl.SubVec(impl.PositionOf(s), from)))
		wantDifference(t, "the distance of a place beside it", moved, r, -far, 1e-3)
		was, _ := impl.AngleTo(from, impl.PositionOf(s))
		is, _ := impl.AngleTo(from, place)
		r, code = impl.BearingClue(s, from, was, 0.5)
		wantCode(t, "BearingClue", code, impl.OK)
		wantDifference(t, "the bearing", s, r, 0, 2e-6)
		wantDifference(t, "the bearing of a place beside it", moved, r, float64(impl.WrapAngle(was-is)), 1e-3)
		r, code = impl.BearingClue(s, from, was+2*impl.Pi, 0.5)
		wantCode(t, "BearingClue", code, impl.OK)
		wantDifference(t, "the bearing and a whole turn", s, r, 0, 5e-6)
	}
}

func wantDifference(t *testing.T, what string, s impl.State, r impl.Clue, want, bound float64) {
	t.Helper()
	d, _, code := impl.DifferenceOf(s, r)
	wantCode(t, what, code, impl.OK)
	wantNear(t, what, d, want, bound)
}

// The orders of sums have 2^24 and two times 1: from left to right both are
// lost, and from right to left they are kept.

func TestOrderOfDifferences(t *testing.T) {
	s := ones(t)
	s.X = impl.Six{1 << 24, 1, 1, 0, 0, 0}
	d, share, code := impl.DifferenceOf(s, impl.Clue{H: impl.Six{1, 1, 1, 0, 0, 0}, Z: 1<<24 + 2, Noise: 1})
	wantNumberCode(t, "the difference", d, code, 2, impl.OK)
	wantNumber(t, "the share", share, 4)
	s.X = impl.Six{0, 0, 0, 1 << 24, 1, 1}
	d, _, code = impl.DifferenceOf(s, impl.Clue{H: impl.Six{0, 0, 0, 1, 1, 1}, Z: 1, Noise: 1})
	wantNumberCode(t, "the difference, behind the sum", d, code, 1-1<<24, impl.OK)
}

func TestOrderOfShares(t *testing.T) {
	h := impl.Six{1, 1, 1, 0, 0, 0}
	share := func(what string, spread impl.Six, noise, want float32) {
		t.Helper()
		_, got, code := impl.DifferenceOf(spreadState(t, impl.Six{}, spread), impl.Clue{H: h, Noise: noise})
		wantNumberCode(t, what, got, code, want, impl.OK)
	}
	share("the first one is great", impl.Six{4096, 1, 1, 0, 0, 0}, 1, 1<<24)
	share("the last one is great", impl.Six{1, 1, 4096, 0, 0, 0}, 1, 1<<24+4)
	share("the noise is great", impl.Six{1, 1, 0, 0, 0, 0}, 4096, 1<<24+2)
	// f[0] is the sum of column 0, from the first row on.
	s := impl.State{}
	s.S[0][0], s.S[1][0], s.S[2][0] = 1<<24, 1, 1
	s.S[0][1], s.S[0][2], s.S[1][2] = minusZero, minusZero, minusZero
	_, got, code := impl.DifferenceOf(s, impl.Clue{H: h, Noise: 1})
	wantNumberCode(t, "f[0]", got, code, 1<<48, impl.OK) // the square of 2^24 + 2 is 2^48 + 2^26, nearly
	s = impl.State{}
	s.S[3][3], s.S[4][3], s.S[5][3] = 1<<24, 1, 1
	_, got, code = impl.DifferenceOf(s, impl.Clue{H: impl.Six{5, 6, 7, 1, 1, 1}, Noise: 1})
	wantNumberCode(t, "f[3]", got, code, 1<<48, impl.OK)
}

func TestDifferencesToTheLastBit(t *testing.T) {
	d := &dice{seed: 80}
	codes := map[int64]int{}
	for i := range 30000 {
		s, r := d.aState(), d.aClue()
		if i%3 == 0 {
			s, r = d.aPlainState(), d.aPlainClue()
		}
		off, share, code := impl.DifferenceOf(s, r)
		_, want, wantShare := sightOf(s, r)
		if isFinite(want) && isFinite(wantShare) {
			wantNumberCode(t, "the difference", off, code, want, impl.OK)
			wantNumber(t, "the share", share, wantShare)
		} else {
			wantNumberCode(t, "the difference", off, code, 0, impl.ErrState)
			wantNumber(t, "the share", share, 0)
		}
		gate, code := impl.GateOf(s, r)
		want, wanted := gateOf(s, r)
		wantNumberCode(t, "GateOf", gate, code, want, wanted)
		codes[code]++
	}
	if codes[impl.OK] < 10000 || codes[impl.ErrState] < 1000 {
		t.Errorf("codes and how often they were: %v", codes)
	}
}

func TestNoDifferences(t *testing.T) {
	none := func(what string, s impl.State, r impl.Clue, want int64) {
		t.Helper()
		d, share, code := impl.DifferenceOf(s, r)
		wantNumberCode(t, what, d, code, 0, want)
		wantNumber(t, what, share, 0)
	}
	noGate := func(what string, s impl.State, r impl.Clue, want int64) {
		t.Helper()
		gate, code := impl.GateOf(s, r)
		wantNumberCode(t, what, gate, code, 0, want)
	}
	s, r := ones(t), impl.Clue{H: impl.Six{1}, Z: 2, Noise: 1}
	for _, bad := range badStates() {
		none("a state that is not valid", bad, r, impl.ErrInvalid)
		noGate("a state that is not valid", bad, r, impl.ErrInvalid)
	}
	for _, bad := range badClues() {
		none("a clue that is not valid", s, bad, impl.ErrInvalid)
		noGate("a clue that is not valid", s, bad, impl.ErrInvalid)
	}
	great := impl.Clue{H: impl.Six{1}, Z: 2, Noise: 1e20}
	none("a share that is infinite", s, great, impl.ErrState)
	gate, code := impl.GateOf(s, great)
	wantNumberCode(t, "a share that is infinite", gate, code, 0, impl.OK) // the quotient is 0, and is all that is returned
	great.Z = 1e20
	noGate("a square and a share that are infinite", s, great, impl.ErrState)
	far := impl.Clue{H: impl.Six{1}, Z: 1e20, Noise: 1}
	noGate("a square that is infinite", s, far, impl.ErrState)
	d, share, code := impl.DifferenceOf(s, far)
	wantNumberCode(t, "a square that is infinite", d, code, 1e20, impl.OK)
	wantNumber(t, "its share", share, 2)
	s.X[0] = -greatest
	far.Z = greatest
	none("a difference that is infinite", s, far, impl.ErrState)
	noGate("a difference that is infinite", s, far, impl.ErrState)
	sure := spreadState(t, impl.Six{1, 1, 1, 1, 1, 1}, impl.Six{})
	small := impl.Clue{H: impl.Six{1}, Z: 2, Noise: 1e-30}
	d, share, code = impl.DifferenceOf(sure, small)
	wantNumberCode(t, "a share of 0", d, code, 1, impl.OK)
	wantNumber(t, "a share of 0", share, 0)
	noGate("a share of 0", sure, small, impl.ErrState)
	small.Z = 1
	noGate("a share and a difference of 0", sure, small, impl.ErrState)
}
