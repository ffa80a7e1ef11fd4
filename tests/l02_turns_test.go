package tests

import (
	"math"
	"testing"

	"loop.example/g01204/impl"
)

func turnFrom(of func() float32) impl.Turn { return impl.Turn{of(), of(), of(), of()} }

func sameTurn(p, q impl.Turn) bool {
	for i := range p {
		if !same(p[i], q[i]) {
			return false
		}
	}
	return true
}

func wantTurn(t *testing.T, what string, got, want impl.Turn) {
	t.Helper()
	if !sameTurn(got, want) {
		t.Errorf("%s: got %v, want %v", what, got, want)
	}
}

func wantTurnCode(t *testing.T, what string, got impl.Turn, code int64, want impl.Turn, wanted int64) {
	t.Helper()
	wantTurn(t, what, got, want)
	wantCode(t, what, code, wanted)
}

// aUnit returns a turn of size 1, nearly.
func (d *dice) aUnit() impl.Turn {
	for {
		q := turnFrom(d.unit)
		if size := impl.SizeOfTurn(q); size > 0.1 {
			return impl.Turn{q[0] / size, q[1] / size, q[2] / size, q[3] / size}
		}
	}
}

// placesOfProduct has, for each number of a product, the place in q that belongs
// to each place in p, and whether the product is taken away.
var placesOfProduct = [4][4]struct {
	place int
	less  bool
}{
	{{0, false}, {1, true}, {2, true}, {3, true}},
	{{1, false}, {0, false}, {3, false}, {2, true}},
	{{2, false}, {3, true}, {0, false}, {1, false}},
	{{3, false}, {2, false}, {1, true}, {0, false}},
}

func productOf(p, q impl.Turn) impl.Turn {
	var r impl.Turn
	for i, row := range placesOfProduct {
		for j, at := range row {
			a := product(p[j], q[at.place])
			switch {
			case j == 0:
				r[i] = a
			case at.less:
				r[i] = difference(r[i], a)
			default:
				r[i] = sum(r[i], a)
			}
		}
	}
	return r
}

func dotOfTurns(p, q impl.Turn) float32 {
	s := product(p[0], q[0])
	for i := 1; i < 4; i++ {
		s = sum(s, product(p[i], q[i]))
	}
	return s
}

func normOf(q impl.Turn) (impl.Turn, int64) {
	size := root(dotOfTurns(q, q))
	if size == 0 || !isFinite(size) {
		return impl.Turn{}, impl.ErrState
	}
	for i := range q {
		q[i] = quotient(q[i], size)
	}
	return q, impl.OK
}

func matrixOf(q impl.Turn) impl.Mat {
	at := func(i, j int) float32 { return product(q[i], q[j]) }
	twice := func(a float32) float32 { return product(2, a) }
	var m impl.Mat
	for i := range 3 {
		j, k := (i+1)%3, (i+2)%3
		low, high := min(j, k), max(j, k)
		m[i][i] = difference(1, twice(sum(at(low+1, low+1), at(high+1, high+1))))
		m[i][j] = twice(difference(at(i+1, j+1), at(0, k+1)))
		m[j][i] = twice(sum(at(i+1, j+1), at(0, k+1)))
	}
	return m
}

func turnOfMatrix(m impl.Mat) (impl.Turn, int64) {
	for _, row := range m {
		for _, a := range row {
			if !isFinite(a) {
				return impl.Turn{}, impl.ErrInvalid
			}
		}
	}
	var q impl.Turn
	if trace := sum(sum(m[0][0], m[1][1]), m[2][2]); trace > 0 {
		r := root(sum(1, trace))
		q[0] = product(0.5, r)
		for i := range 3 {
			j, k := (i+1)%3, (i+2)%3
			q[i+1] = product(difference(m[k][j], m[j][k]), quotient(0.5, r))
		}
		return normOf(q)
	}
	i := 2
	if m[0][0] >= m[1][1] && m[0][0] >= m[2][2] {
		i = 0
	} else if m[1][1] >= m[2][2] {
		i = 1
	}
	j, k := (i+1)%3, (i+2)%3
	r := root(sum(difference(difference(m[i][i], m[j][j]), m[k][k]), 1))
	if !(r > 0) {
		return impl.Turn{}, impl.ErrState
	}
	by := quotient(0.5, r)
	q[0] = product(difference(m[k][j], m[j][k]), by)
	q[i+1] = product(0.5, r)
	q[j+1] = product(sum(m[j][i], m[i][j]), by)
	q[k+1] = product(sum(m[k][i], m[i][k]), by)
	return normOf(q)
}

func TestTurnsOfKinds(t *testing.T) {
	wantTurn(t, "UnitTurn", impl.UnitTurn(), impl.Turn{1, 0, 0, 0})
	wantTurn(t, "BackTurn", impl.BackTurn(impl.Turn{1, 2, -3, 0}), impl.Turn{1, -2, 3, minusZero})
	wantTurn(t, "BackTurn", impl.BackTurn(impl.Turn{minusZero, infinite, nan, minusZero}), impl.Turn{minusZero, -infinite, nan, 0})
	q := impl.Turn{0, otherNaN, infinite, 4}
	wantBool(t, "SameTurn of NaNs", impl.SameTurn(q, impl.Turn{0, nan, infinite, 4}), true)
	wantBool(t, "IsFiniteTurn", impl.IsFiniteTurn(impl.Turn{greatest, -greatest, tiniest, minusZero}), true)
	for i := range 4 {
		p := q
		p[i] = -5
		wantBool(t, "SameTurn", impl.SameTurn(q, p), false)
		wantBool(t, "SameTurn", impl.SameTurn(p, q), false)
		p = impl.Turn{}
		p[i] = minusZero
		wantBool(t, "SameTurn of 0 and -0", impl.SameTurn(impl.Turn{}, p), false)
		for _, a := range []float32{infinite, -infinite, nan, otherNaN} {
			p[i] = a
			wantBool(t, "IsFiniteTurn", impl.IsFiniteTurn(p), false)
		}
	}
}

func TestProductsOfTurns(t *testing.T) {
	one, i, j, k := impl.UnitTurn(), impl.Turn{0, 1, 0, 0}, impl.Turn{0, 0, 1, 0}, impl.Turn{0, 0, 0, 1}
	equalTurn := func(what string, got, want impl.Turn) {
		t.Helper()
		if got != want { // 0 may be -0 here
			t.Errorf("%s: got %v, want %v", what, got, want)
		}
	}
	equalTurn("i j", impl.MulTurns(i, j), k)
	equalTurn("j i", impl.MulTurns(j, i), impl.BackTurn(k))
	equalTurn("j k", impl.MulTurns(j, k), i)
	equalTurn("k i", impl.MulTurns(k, i), j)
	for _, q := range []impl.Turn{i, j, k} {
		equalTurn("the square", impl.MulTurns(q, q), impl.Turn{-1, 0, 0, 0})
		equalTurn("with 1", impl.MulTurns(q, one), q)
		equalTurn("with 1", impl.MulTurns(one, q), q)
		equalTurn("with the way back", impl.MulTurns(q, impl.BackTurn(q)), one)
	}
	equalTurn("whole numbers", impl.MulTurns(impl.Turn{1, 2, 3, 4}, impl.Turn{5, 6, 7, 8}), impl.Turn{-60, 12, 30, 24})
	d := &dice{seed: 31}
	for range 20000 {
		p, q := turnFrom(d.any), turnFrom(d.any)
		wantTurn(t, "MulTurns", impl.MulTurns(p, q), productOf(p, q))
		p, q = turnFrom(d.unit), turnFrom(d.unit)
		wantTurn(t, "MulTurns", impl.MulTurns(p, q), productOf(p, q))
		wantNumber(t, "SizeOfTurn", impl.SizeOfTurn(p), root(dotOfTurns(p, p)))
	}
}

// TestPartsOfProductsInOrder has a great number in one place after another: what is added to it later, or is rounded before, is lost.
func TestPartsOfProductsInOrder(t *testing.T) {
	for at := range 4 {
		for other := range 4 {
			p, q := impl.Turn{1, 1, 1, 1}, impl.Turn{1, 1, 1, 1}
			p[at], q[other] = 1<<13, 1<<12
			wantTurn(t, "MulTurns", impl.MulTurns(p, q), productOf(p, q))
		}
	}
	const a = 1 + 1.0/4096 // its square is rounded to b
	const b = 1 + 1.0/2048
	p, q := impl.Turn{b, a, 0, 0}, impl.Turn{1, a, 0, 0}
	wantNumber(t, "a product that is rounded first", impl.MulTurns(p, q)[0], 0)
}

func TestSizesOfTurns(t *testing.T) {
	wantNumber(t, "of 1, 1, 1, 1", impl.SizeOfTurn(impl.Turn{1, -1, 1, -1}), 2)
	wantNumber(t, "of 1, 2, 4, 10", impl.SizeOfTurn(impl.Turn{1, 2, 4, 10}), 11)
	wantNumber(t, "of great numbers", impl.SizeOfTurn(impl.Turn{0, 0, 1e30, 0}), infinite)
	wantNumber(t, "of small numbers", impl.SizeOfTurn(impl.Turn{0, 1e-30, 0, 0}), 0)
	wantNumber(t, "of NaN", impl.SizeOfTurn(impl.Turn{1, infinite, 0, otherNaN}), nan)
	for _, q := range []impl.Turn{{}, {minusZero, 0, 0, 0}, {1e-30, tiniest, 0, 0}, {0, 0, 0, 1e20}, {1, 0, 0, infinite}, {-infinite, 0, 0, 0}, {0, nan, 0, 0}, {0, 1, otherNaN, 0}} {
		n, code := impl.NormTurn(q)
		wantTurnCode(t, "no NormTurn", n, code, impl.Turn{}, impl.ErrState)
	}
	n, code := impl.NormTurn(impl.Turn{0, minusZero, -1e-22, 0})
	wantTurnCode(t, "a subnormal square", n, code, impl.Turn{0, minusZero, quotient(-1e-22, root(product(1e-22, 1e-22))), 0}, impl.OK)
	n, code = impl.NormTurn(impl.Turn{3, 0, minusZero, -4})
	wantTurnCode(t, "NormTurn", n, code, impl.Turn{quotient(3, 5), 0, minusZero, quotient(-4, 5)}, impl.OK)
	d := &dice{seed: 32}
	for range 10000 {
		q := turnFrom(d.any)
		got, code := impl.NormTurn(q)
		want, wanted := normOf(q)
		wantTurnCode(t, "NormTurn", got, code, want, wanted)
	}
}

func TestTurnsAboutAxes(t *testing.T) {
	for _, c := range []struct {
		axis  impl.Vec
		angle float32
	}{
		{impl.Vec{}, 1}, {impl.Vec{1e-30, 0, 0}, 1}, {impl.Vec{0, 1e20, 0}, 1}, {impl.Vec{0, 0, infinite}, 1}, {impl.Vec{nan, 0, 1}, 1},
		{impl.Vec{1, 0, 0}, infinite}, {impl.Vec{1, 0, 0}, -infinite}, {impl.Vec{0, 1, 0}, nan}, {impl.Vec{}, otherNaN},
	} {
		q, code := impl.TurnAbout(c.axis, c.angle)
		wantTurnCode(t, "no TurnAbout", q, code, impl.Turn{}, impl.ErrState)
	}
	q, code := impl.TurnAbout(impl.Vec{0, -2, 0}, 0)
	wantTurnCode(t, "by 0", q, code, impl.Turn{1, 0, minusZero, 0}, impl.OK)
	q, code = impl.TurnAbout(impl.Vec{0, 0, 7}, impl.Pi)
	wantTurnCode(t, "by Pi", q, code, impl.Turn{math.Float32frombits(0xb33bbd2e), 0, 0, 1}, impl.OK)
	q, code = impl.TurnAbout(impl.Vec{1, 0, 0}, tiniest) // half of it is 0
	wantTurnCode(t, "by the tiniest", q, code, impl.UnitTurn(), impl.OK)
	q, code = impl.TurnAbout(impl.Vec{1, 0, 0}, -3*tiniest) // half of it is -2 times the tiniest, whose sine is -0
	wantTurnCode(t, "by little", q, code, impl.Turn{1, minusZero, minusZero, minusZero}, impl.OK)
	d := &dice{seed: 33}
	for range 10000 {
		axis, angle := vecFrom(d.unit), d.anAngle()
		q, code := impl.TurnAbout(axis, angle)
		if !isFinite(angle) {
			wantTurnCode(t, "TurnAbout", q, code, impl.Turn{}, impl.ErrState)
			continue
		}
		half, length := product(0.5, angle), root(dotOf(axis, axis))
		want := impl.Turn{cosineOf(half)}
		for i, a := range axis {
			want[i+1] = product(quotient(a, length), sineOf(half))
		}
		wantTurnCode(t, "TurnAbout", q, code, want, impl.OK)
		if angle > -1e6 && angle < 1e6 { // the sine and the cosine of a very great one may both be 0
			wantNear(t, "the size", impl.SizeOfTurn(q), 1, 1e-6)
		}
	}
}

func TestMatricesOfTurns(t *testing.T) {
	wantMat(t, "of UnitTurn", impl.TurnMatrix(impl.UnitTurn()), impl.UnitMat())
	wantMat(t, "of whole numbers", impl.TurnMatrix(impl.Turn{1, 2, 3, 5}), impl.Mat{{-67, 2, 26}, {22, -57, 26}, {14, 34, -25}})
	d := &dice{seed: 34}
	for range 10000 {
		q, v := turnFrom(d.any), vecFrom(d.any)
		wantMat(t, "TurnMatrix", impl.TurnMatrix(q), matrixOf(q))
		q, v = turnFrom(d.unit), vecFrom(d.unit)
		m := matrixOf(q)
		wantMat(t, "TurnMatrix", impl.TurnMatrix(q), m)
		wantVec(t, "TurnVec", impl.TurnVec(q, v), impl.Vec{dotOf(m[0], v), dotOf(m[1], v), dotOf(m[2], v)})
	}
}

func TestTurnOfMatrixByItsTrace(t *testing.T) {
	h := root(0.5)
	for _, c := range []struct {
		what string
		m    impl.Mat
		q    impl.Turn
	}{
		{"positive", impl.UnitMat(), impl.Turn{1, 0, 0, 0}},
		{"hardly positive", impl.Mat{{tiniest}}, impl.Turn{1, 0, 0, 0}},
		{"0", impl.Mat{}, impl.Turn{0, 1, 0, 0}},
		{"-0", impl.Mat{{minusZero}, {0, minusZero}, {0, 0, minusZero}}, impl.Turn{0, 1, 0, 0}},
		{"0 of three numbers", impl.Mat{{-1, 0, 0}, {0, 0, 1}, {0, 1, 1}}, impl.Turn{0, 0, 2 / root(13), 3 / root(13)}},
		{"negative, the first one greatest", impl.Mat{{1, 0, 0}, {0, -1, 0}, {0, 0, -1}}, impl.Turn{0, 1, 0, 0}},
		{"negative, the second one greatest", impl.Mat{{-1, 0, 0}, {0, 1, 0}, {0, 0, -1}}, impl.Turn{0, 0, 1, 0}},
		{"negative, the third one greatest", impl.Mat{{-1, 0, 0}, {0, -1, 0}, {0, 0, 1}}, impl.Turn{0, 0, 0, 1}},
		{"the first two equal", impl.Mat{{0, 1, 0}, {1, 0, 0}, {0, 0, -1}}, impl.Turn{0, h, h, 0}},
		{"the last two equal", impl.Mat{{-1, 0, 0}, {0, 0, 1}, {0, 1, 0}}, impl.Turn{0, 0, h, h}},
		{"the outer two equal", impl.Mat{{0, 0, 1}, {0, -1, 0}, {1, 0, 0}}, impl.Turn{0, h, 0, h}},
	} {
		q, code := impl.TurnOfMatrix(c.m)
		for i := range q {
			wantNear(t, c.what, q[i], float64(c.q[i]), 1e-7)
		}
		wantCode(t, c.what, code, impl.OK)
		want, _ := turnOfMatrix(c.m)
		wantTurn(t, c.what, q, want)
	}
}

// TestTheFirstOfEqualNumbersOnTheDiagonal has other numbers that are not those of a turn, so that each index gives another turn.
func TestTheFirstOfEqualNumbersOnTheDiagonal(t *testing.T) {
	for _, diagonal := range []impl.Vec{{-1, -1, -1}, {0, 0, -1}, {-1, 0, 0}, {0, -1, 0}, {-2, -1, -1}, {-1, -2, -1}, {-1, -1, -2}, {0, minusZero, 0}, {minusZero, 0, 0}, {1, -3, 1}, {1, 1, -2}} {
		m := impl.Mat{{0, 2, 5}, {1, 0, 9}, {-4, 3, 0}}
		for i, a := range diagonal {
			m[i][i] = a
		}
		first := 0
		for i, a := range diagonal {
			if a > diagonal[first] {
				first = i
			}
		}
		got, code := impl.TurnOfMatrix(m)
		want, wanted := turnOfMatrix(m)
		wantTurnCode(t, "TurnOfMatrix", got, code, want, wanted)
		if got[first+1] <= 0 {
			t.Errorf("TurnOfMatrix with %v on the diagonal: %v is not from the index %d", diagonal, got, first)
		}
	}
}

func TestNoTurnsOfMatrices(t *testing.T) {
	for i := range 9 {
		for _, a := range []float32{infinite, -infinite, nan, otherNaN} {
			m := impl.UnitMat()
			m[i/3][i%3] = a
			q, code := impl.TurnOfMatrix(m)
			wantTurnCode(t, "not finite", q, code, impl.Turn{}, impl.ErrInvalid)
			q, code = impl.TurnOfMatrix(impl.ScaleMat(m, -1))
			wantTurnCode(t, "not finite, and negative", q, code, impl.Turn{}, impl.ErrInvalid)
			m[0][0], m[1][1], m[2][2] = greatest, greatest, greatest
			m[i/3][i%3] = a
			q, code = impl.TurnOfMatrix(m)
			wantTurnCode(t, "not finite, and no turn", q, code, impl.Turn{}, impl.ErrInvalid)
		}
	}
	for _, m := range []impl.Mat{
		{{greatest}, {0, greatest}}, {{greatest}, {0, -greatest}}, {{-greatest}, {0, -greatest}, {0, 0, 1}},
		{{1, greatest, 0}, {-greatest, 1, 0}}, {{1, 1e30, 0}, {0, 1, 0}}, {{0, greatest, 0}, {greatest, -1, 0}, {0, 0, -1}}, {{-1, 0, 1e30}, {0, -1, 0}},
	} {
		q, code := impl.TurnOfMatrix(m)
		wantTurnCode(t, "too great", q, code, impl.Turn{}, impl.ErrState)
	}
}

func TestTurnsOfMatricesBitByBit(t *testing.T) {
	d := &dice{seed: 35}
	for i := range 30000 {
		m := matFrom(d.any)
		switch i % 4 {
		case 1:
			m = matFrom(d.unit)
		case 2:
			m = matFrom(func() float32 { return d.whole(2) })
		case 3:
			m = impl.TurnMatrix(d.aUnit())
		}
		got, code := impl.TurnOfMatrix(m)
		want, wanted := turnOfMatrix(m)
		wantTurnCode(t, "TurnOfMatrix", got, code, want, wanted)
	}
}

func TestTurnsAreMadeOfTheirMatrices(t *testing.T) {
	d := &dice{seed: 36}
	places := [4]int{}
	for range 10000 {
		q := d.aUnit()
		for i := range q { // a turn by nearly half a turn now and then
			if d.below(8) == 0 {
				q[i] /= 1 << 20
			}
		}
		q, code := impl.NormTurn(q)
		wantCode(t, "NormTurn", code, impl.OK)
		got, code := impl.TurnOfMatrix(impl.TurnMatrix(q))
		wantCode(t, "TurnOfMatrix", code, impl.OK)
		sign, greatestAt := float32(1), 0
		if dotOfTurns(got, q) < 0 {
			sign = -1
		}
		for i := range q {
			wantNear(t, "TurnOfMatrix", sign*got[i], float64(q[i]), 2e-6)
			if math.Abs(float64(q[i])) > math.Abs(float64(q[greatestAt])) {
				greatestAt = i
			}
		}
		places[greatestAt]++
	}
	for i, n := range places {
		if n < 1000 {
			t.Errorf("only %d turns whose number %d is greatest", n, i)
		}
	}
}

func TestTurnsKeepLengthsAndAreUndone(t *testing.T) {
	d := &dice{seed: 37}
	for range 10000 {
		p, q, v := d.aUnit(), d.aUnit(), vecFrom(d.unit)
		turned := impl.TurnVec(q, v)
		wantNear(t, "the length", impl.LengthOf(turned), float64(impl.LengthOf(v)), 1e-6)
		wantBool(t, "the way back", impl.AreNear(impl.TurnVec(impl.BackTurn(q), turned), v, 2e-6), true)
		wantBool(t, "one after the other", impl.AreNear(impl.TurnVec(p, turned), impl.TurnVec(impl.MulTurns(p, q), v), 3e-6), true)
		undone := impl.MulTurns(q, impl.BackTurn(q))
		wantNear(t, "undone", impl.AngleBetween(undone, impl.UnitTurn()), 0, 2e-6)
		wantBool(t, "the opposite numbers", impl.AreNear(impl.TurnVec(impl.Turn{-q[0], -q[1], -q[2], -q[3]}, v), turned, 0), true)
	}
	for i := range 3 {
		var axis, from, to impl.Vec
		axis[i], from[(i+1)%3], to[(i+2)%3] = 2, 1, 1
		q, code := impl.TurnAbout(axis, impl.Pi/2)
		wantCode(t, "TurnAbout", code, impl.OK)
		wantBool(t, "a quarter of a turn", impl.AreNear(impl.TurnVec(q, from), to, 1e-6), true)
		wantBool(t, "the axis", impl.AreNear(impl.TurnVec(q, axis), axis, 1e-6), true)
	}
}
