package tests

import (
	"fmt"
	"math"
	"testing"

	"loop.example/g01204/impl"
)

// unitTable has 1 in row i and column i.
func unitTable() [6][9]float32 {
	var a [6][9]float32
	for i := range a {
		a[i][i] = 1
	}
	return a
}

func unitRoot() impl.Root {
	var r impl.Root
	for i := range r {
		r[i][i] = 1
	}
	return r
}

func wantLower(t *testing.T, what string, a [6][9]float32, want impl.Root) {
	t.Helper()
	low, code := impl.LowerOf(a)
	wantRootCode(t, what, low, code, want, impl.OK)
}

func wantNoLower(t *testing.T, what string, a [6][9]float32, want int64) {
	t.Helper()
	low, code := impl.LowerOf(a)
	wantRootCode(t, what, low, code, impl.Root{}, want)
}

// aTable returns a table of numbers of one kind.
func (d *dice) aTable(of func() float32) [6][9]float32 {
	var a [6][9]float32
	for i := range a {
		for j := range a[i] {
			a[i][j] = of()
		}
	}
	return a
}

func TestRootsOfTables(t *testing.T) {
	wantLower(t, "nothing but 0", [6][9]float32{}, impl.Root{})
	wantLower(t, "what is lower already", unitTable(), unitRoot())
	c, d := quotient(3, 5), quotient(4, 5)
	for j := 1; j < 9; j++ {
		a, want := unitTable(), unitRoot()
		a[0][0], a[0][j], a[5][0], a[5][j] = 3, 4, 5, 10
		want[0][0] = sum(product(c, 3), product(d, 4))
		want[5][0] = sum(product(c, 5), product(d, 10))
		rest := difference(product(c, 10), product(d, 5))
		switch {
		case j < 5:
			want[j][0], want[j][j], want[5][j] = d, c, rest
		case j == 5:
			want[5][5] = rest
		default: // 1 and the rest, in the columns 5 and j, are turned once more
			by := root(sum(1, product(rest, rest)))
			want[5][5] = sum(quotient(1, by), product(quotient(rest, by), rest))
		}
		wantLower(t, fmt.Sprint("3 and 4, column ", j), a, want)
	}
}

// TestZerosOnTheRight: no column is turned for 0 or -0, and 0 is returned for both.
func TestZerosOnTheRight(t *testing.T) {
	a := unitTable()
	for i := range a {
		for j := i + 1; j < 9; j++ {
			a[i][j] = minusZero
		}
	}
	wantLower(t, "-0 on the right", a, unitRoot())
	a[0][0], a[5][0] = 0, -3
	want := unitRoot()
	want[0][0], want[5][0] = 0, -3
	wantLower(t, "0 and -0 on the right", a, want) // a square root of 0 would be an error
	a[0][0] = minusZero
	want[0][0] = minusZero
	wantLower(t, "-0 and -0 on the right", a, want)
	a[0][0], a[4][0] = tiniest, minusZero
	want[0][0], want[4][0] = tiniest, minusZero
	wantLower(t, "a square that is 0, and -0 on the right", a, want)
	a[0][0], a[0][1], a[5][1] = 1, 0, 7
	want[0][0], want[5][1] = 1, 7
	wantLower(t, "1, and 0 on the right", a, want)
}

func TestDiagonalsLessThan0(t *testing.T) {
	a := unitTable()
	a[1][1], a[0][1] = -2, minusZero
	a[2][1], a[3][1], a[4][1], a[5][1] = 5, -6, 0, minusZero
	a[2][2], a[5][2] = minusZero, 4
	want := unitRoot()
	want[1][1], want[2][1], want[3][1], want[4][1], want[5][1] = 2, -5, 6, minusZero, 0
	want[2][2], want[5][2] = minusZero, 4
	wantLower(t, "a column of opposites", a, want)
	a[1][1] = -tiniest
	want[1][1] = tiniest
	wantLower(t, "hardly less than 0", a, want)
	b := unitTable()
	b[0][0], b[0][8], b[5][0], b[5][8] = -3, 4, 1, 2 // c is -3/5
	low, code := impl.LowerOf(b)
	want, _ = lowerOf(b)
	wantRootCode(t, "a negative p", low, code, want, impl.OK)
	wantNear(t, "its length", low[0][0], 5, 1e-6)
	wantNear(t, "what is below", low[5][0], 1, 1e-6)
	wantNear(t, "the rest", low[5][5], math.Sqrt(1+4), 1e-6)
	c := unitTable()
	c[0][0], c[1][0], c[0][1], c[1][1] = 1, 2, 2, 1 // turned, a[1][1] is (1 - 4) / sqrt 5
	low, code = impl.LowerOf(c)
	want, _ = lowerOf(c)
	wantRootCode(t, "one that becomes less than 0", low, code, want, impl.OK)
	wantNear(t, "one that becomes less than 0", low[1][1], 3/math.Sqrt(5), 1e-6)
}

// TestSquareRootsThatAreNotFinite: p and q are lost where their squares are too
// great, and with them both columns. All that is returned is finite, so that
// this is no error.
func TestSquareRootsThatAreNotFinite(t *testing.T) {
	for _, c := range []struct{ p, q, u, v float32 }{
		{1e30, 1e30, 5, 7}, {1e20, 1, 5, 7}, {1, 1e20, -5, 7}, {-1e30, 1e30, 5, 7}, {1e30, -1e30, 5, -7}, {greatest, greatest, greatest, greatest},
	} {
		for j := 1; j < 9; j++ {
			a := unitTable()
			a[0][0], a[0][j], a[5][0], a[5][j] = c.p, c.q, c.u, c.v
			want := unitRoot()
			want[0][0] = 0
			if j < 6 {
				want[j][j] = 0 // 0 times 1, less d times 0
			}
			low, code := impl.LowerOf(a)
			again, _ := lowerOf(a)
			wantRootCode(t, "a square root that is infinite", low, code, again, impl.OK)
			for i := range 6 {
				wantBool(t, "nothing is left of both columns", low[i][i] == want[i][i] && (i == 0 || low[i][0] == 0), true)
			}
		}
	}
	a := unitTable()
	a[0][0], a[0][1], a[5][0], a[5][1] = -1e30, 1e30, 5, 7
	want := unitRoot()
	want[0][0] = 0
	for i := 1; i < 6; i++ {
		want[i][1] = minusZero
	}
	wantLower(t, "-0 times v, less 0 times u", a, want)
}

func TestSquareRootsOf0(t *testing.T) {
	for _, c := range []struct{ p, q float32 }{{0, tiniest}, {minusZero, -1e-30}, {1e-30, 1e-30}, {-tiniest, tiniest}, {1e-23, 1e-23}} {
		for i := range 6 {
			for j := i + 1; j < 9; j++ {
				a := unitTable()
				a[i][i], a[i][j] = c.p, c.q
				wantNoLower(t, "a square root that is 0", a, impl.ErrState)
			}
		}
	}
	for j := 1; j < 9; j++ {
		a := unitTable()
		a[0][j] = 1e-30
		a[0][0] = 1
		low, code := impl.LowerOf(a)
		want, _ := lowerOf(a)
		wantRootCode(t, "one square that is 0", low, code, want, impl.OK)
		a[0][j], a[0][0] = 1, 1e-30
		low, code = impl.LowerOf(a)
		want, _ = lowerOf(a)
		wantRootCode(t, "the other one that is 0", low, code, want, impl.OK)
		a[0][j], a[0][0] = 1e-22, 0
		low, code = impl.LowerOf(a)
		want, _ = lowerOf(a)
		wantRootCode(t, "a subnormal square", low, code, want, impl.OK)
	}
}

func TestTablesThatAreNotFinite(t *testing.T) {
	for i := range 6 {
		for j := range 9 {
			for _, bad := range []float32{nan, otherNaN, infinite, -infinite} {
				a := unitTable()
				a[i][j] = bad
				wantNoLower(t, "a number that is not finite", a, impl.ErrInvalid)
				a[0][7] = 1e-30 // and a square root of 0
				a[0][0] = 0
				a[i][j] = bad
				wantNoLower(t, "a number that is not finite, and a square root of 0", a, impl.ErrInvalid)
			}
		}
	}
}

func TestRootsThatAreNotFinite(t *testing.T) {
	for j := 1; j < 9; j++ {
		a := unitTable()
		a[0][0], a[0][j] = 1, 1
		a[5][0], a[5][j] = greatest, greatest
		wantNoLower(t, "a sum that is too great", a, impl.ErrState)
		a[0][j] = -1 // a[5][0] becomes 0, and a[5][j] infinite
		if j != 5 {
			wantNoLower(t, "a difference that is too great", a, impl.ErrState)
		}
	}
	a := unitTable()
	a[0][0], a[0][8] = 1, 1
	a[5][0], a[5][8] = 2e38, 2e38
	low, code := impl.LowerOf(a)
	want, _ := lowerOf(a)
	wantRootCode(t, "nearly too great", low, code, want, impl.OK)
}

func TestRootsOfTablesToTheLastBit(t *testing.T) {
	d := &dice{seed: 72}
	codes := map[int64]int{}
	for range 30000 {
		a := d.aTable(d.numbers())
		if d.below(10) == 0 {
			a[d.below(6)][d.below(9)] = d.any()
		}
		before := a
		low, code := impl.LowerOf(a)
		want, wanted := lowerOf(before)
		wantRootCode(t, "LowerOf", low, code, want, wanted)
		codes[code]++
	}
	if codes[impl.OK] < 10000 || codes[impl.ErrState] < 100 || codes[impl.ErrInvalid] < 100 {
		t.Errorf("codes and how often they were: %v", codes)
	}
}

// TestTurningKeepsProducts holds the products of rows before against those behind.
func TestTurningKeepsProducts(t *testing.T) {
	d := &dice{seed: 73}
	for range 5000 {
		a := d.aTable(d.often(d.unit))
		by := float32(math.Ldexp(1, d.below(60)-30))
		for i := range a {
			for j := range a[i] {
				a[i][j] *= by
			}
		}
		low, code := impl.LowerOf(a)
		if code != impl.OK {
			t.Fatalf("LowerOf %v: code %d", a, code)
		}
		for i := range 6 {
			wantBool(t, "the diagonal is at least 0", low[i][i] >= 0, true)
			for j := range 6 {
				if j > i {
					wantNumber(t, "above the diagonal", low[i][j], 0)
				}
				var before, behind float64
				for k := range 9 {
					before += float64(a[i][k]) * float64(a[j][k])
				}
				for k := range 6 {
					behind += float64(low[i][k]) * float64(low[j][k])
				}
				if math.Abs(before-behind) > 2e-5*float64(by)*float64(by) {
					t.Errorf("rows %d and %d of %v: product %g before, %g behind", i, j, a, before, behind)
				}
			}
		}
	}
}
