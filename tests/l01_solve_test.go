package tests

import (
	"math"
	"testing"

	"loop.example/g01204/impl"
)

func wantSolved(t *testing.T, what string, m impl.Mat, v, want impl.Vec) {
	t.Helper()
	x, code := impl.SolveMat(m, v)
	wantVec(t, what, x, want)
	wantCode(t, what, code, impl.OK)
}

func wantUnsolved(t *testing.T, what string, m impl.Mat, v impl.Vec, want int64) {
	t.Helper()
	x, code := impl.SolveMat(m, v)
	wantVec(t, what, x, impl.Vec{})
	wantCode(t, what, code, want)
}

// With 2^25 in the row of the pivot the first number of x would be 4 here, since
// 2^25 * x is rounded to a multiple of 4; with 1 in it, it is 2.
func TestTheFirstOfEqualRowsIsThePivot(t *testing.T) {
	const big = 1 << 25
	const below = 1 - 1.0/(1<<23)
	wantSolved(t, "equal rows", impl.Mat{{1, 1, 0}, {1, big, 0}, {0, 0, 1}}, impl.Vec{3, big, 1}, impl.Vec{2, below, 1})
	wantSolved(t, "the other row first", impl.Mat{{1, big, 0}, {1, 1, 0}, {0, 0, 1}}, impl.Vec{big, 3, 1}, impl.Vec{4, below, 1})
	wantSolved(t, "equal in size", impl.Mat{{1, 1, 0}, {-1, -big, 0}, {0, 0, 1}}, impl.Vec{3, -big, 1}, impl.Vec{2, below, 1})
	wantSolved(t, "the first one negative", impl.Mat{{-1, -1, 0}, {1, big, 0}, {0, 0, 1}}, impl.Vec{-3, big, 1}, impl.Vec{2, below, 1})
	wantSolved(t, "the last row", impl.Mat{{1, 1, 0}, {0, 0, 1}, {1, big, 0}}, impl.Vec{3, 1, big}, impl.Vec{2, below, 1})
	wantSolved(t, "rows 1 and 2", impl.Mat{{0, 0, 1}, {1, 1, 0}, {-1, -big, 0}}, impl.Vec{1, 3, -big}, impl.Vec{2, below, 1})
	wantSolved(t, "column 1", impl.Mat{{1, 0, 0}, {0, 1, 1}, {0, 1, big}}, impl.Vec{1, 3, big}, impl.Vec{1, 2, below})
	wantSolved(t, "column 1, the other row first", impl.Mat{{1, 0, 0}, {0, 1, big}, {0, 1, 1}}, impl.Vec{1, big, 3}, impl.Vec{1, 4, below})
	wantSolved(t, "rows that have changed places", impl.Mat{{0, 1, big}, {0, 1, 1}, {1, 0, 0}}, impl.Vec{big, 3, 1}, impl.Vec{1, 2, below})
}

func TestTheGreatestInSizeIsThePivot(t *testing.T) {
	const small = 1.0 / (1 << 30)
	wantSolved(t, "a negative one", impl.Mat{{small, 1, 0}, {-1, 1, 0}, {0, 0, 1}}, impl.Vec{1, 0, 1}, impl.Vec{1, 1, 1})
	wantSolved(t, "the last row", impl.Mat{{small, 1, 0}, {0, 0, 1}, {-1, 1, 0}}, impl.Vec{1, 1, 0}, impl.Vec{1, 1, 1})
	wantSolved(t, "column 1", impl.Mat{{1, 0, 0}, {0, small, 1}, {0, -1, 1}}, impl.Vec{1, 1, 0}, impl.Vec{1, 1, 1})
	wantSolved(t, "0 first", impl.Mat{{0, 2, 0}, {0, 0, 4}, {1, 0, 0}}, impl.Vec{4, 8, 3}, impl.Vec{3, 2, 2})
	wantSolved(t, "-0 first", impl.Mat{{minusZero, 2, 0}, {1, 0, 0}, {0, 0, 4}}, impl.Vec{4, 3, 8}, impl.Vec{3, 2, 2})
}

// TestZerosOfSolutions shows that 0 times a row is taken away as well: -0 less -0 is 0.
func TestZerosOfSolutions(t *testing.T) {
	wantSolved(t, "-0 becomes 0", impl.UnitMat(), impl.Vec{-1, minusZero, 0}, impl.Vec{-1, 0, 0})
	wantSolved(t, "-0 stays", impl.UnitMat(), impl.Vec{1, 1, minusZero}, impl.Vec{1, 1, minusZero})
	wantSolved(t, "a negative divisor", impl.ScaleMat(impl.UnitMat(), -1), impl.Vec{0, 0, 0}, impl.Vec{minusZero, minusZero, minusZero})
}

func TestProductsAreTakenAwayOneByOne(t *testing.T) {
	upper := impl.Mat{{1, 1, 1}, {0, 1, 0}, {0, 0, 1}}
	wantSolved(t, "from left to right", upper, impl.Vec{1<<24 + 2, 1, 1}, impl.Vec{1<<24 - 1, 1, 1})
	wantSolved(t, "the column 1 first", upper, impl.Vec{1 << 25, 1 << 25, 1}, impl.Vec{-1, 1 << 25, 1})
	const a = 1 + 1.0/4096
	const b = 1 + 1.0/2048
	wantSolved(t, "rounded first", impl.Mat{{1, a, 0}, {0, 1, 0}, {0, 0, 1}}, impl.Vec{b, a, 1}, impl.Vec{0, a, 1})
	wantSolved(t, "rounded first in the numbers behind", impl.Mat{{1, 0, 0}, {a / 2, 1, 0}, {0, 0, 1}}, impl.Vec{a, b / 2, 1}, impl.Vec{a, 0, 1})
	wantUnsolved(t, "rounded first in the rows behind", impl.Mat{{1, a, 0}, {a / 2, b / 2, 0}, {0, 0, 1}}, impl.Vec{1, 1, 1}, impl.ErrState)
}

func TestUnsolved(t *testing.T) {
	v, unit := impl.Vec{1, 2, 3}, impl.UnitMat()
	for i := range 3 {
		for _, a := range []float32{infinite, -infinite, nan, otherNaN} {
			w := v
			w[i] = a
			wantUnsolved(t, "a vector that is not finite", unit, w, impl.ErrInvalid)
			wantUnsolved(t, "it, and a pivot 0", impl.Mat{}, w, impl.ErrInvalid)
			for j := range 3 {
				m := impl.Mat{}
				m[i][j] = a
				wantUnsolved(t, "a matrix that is not finite", m, v, impl.ErrInvalid)
			}
		}
		m := unit
		m[i][i] = 0
		wantUnsolved(t, "a pivot 0", m, v, impl.ErrState)
		wantUnsolved(t, "a pivot 0, and no numbers", m, impl.Vec{}, impl.ErrState)
		m[i][i] = minusZero
		wantUnsolved(t, "a pivot -0", m, v, impl.ErrState)
	}
	wantUnsolved(t, "no numbers at all", impl.Mat{}, impl.Vec{}, impl.ErrState)
	wantUnsolved(t, "equal rows", impl.Mat{{1, 2, 3}, {4, 5, 7}, {1, 2, 3}}, v, impl.ErrState)
	wantUnsolved(t, "multiples", impl.Mat{{1, 2, 3}, {2, 4, 6}, {0, 0, 1}}, v, impl.ErrState)
}

func TestNumbersThatAreMadeMustBeFinite(t *testing.T) {
	wantUnsolved(t, "in the matrix, though x would be finite", impl.Mat{{1, 3e38, 0}, {-1, 3e38, 0}, {0, 0, 1}}, impl.Vec{0, 1, 1}, impl.ErrState)
	wantUnsolved(t, "in column 2", impl.Mat{{1, 0, 3e38}, {-1, 1, 3e38}, {0, 0, 1}}, impl.Vec{}, impl.ErrState)
	wantUnsolved(t, "in the last pivot", impl.Mat{{1, 0, 0}, {0, 1, 3e38}, {0, -1, 3e38}}, impl.Vec{0, 1, 1}, impl.ErrState)
	wantUnsolved(t, "in the vector", impl.Mat{{1, 0, 0}, {-1, 1, 0}, {0, 0, 1}}, impl.Vec{3e38, 3e38, 0}, impl.ErrState)
	wantUnsolved(t, "in a quotient", impl.Mat{{1e-40, 0, 0}, {0, 1, 0}, {0, 0, 1}}, impl.Vec{1, 1, 1}, impl.ErrState)
	wantUnsolved(t, "in the first quotient", impl.Mat{{1, 0, 0}, {0, 1, 0}, {0, 0, 1e-40}}, impl.Vec{1, 1, 1}, impl.ErrState)
	wantUnsolved(t, "in a product", impl.Mat{{1, 1e20, 0}, {0, 1, 0}, {0, 0, 1}}, impl.Vec{0, 1e20, 0}, impl.ErrState)
	wantSolved(t, "the greatest one", impl.UnitMat(), impl.Vec{greatest, -greatest, greatest}, impl.Vec{greatest, -greatest, greatest})
	wantSolved(t, "subnormal pivots", impl.ScaleMat(impl.UnitMat(), tiniest), impl.Vec{tiniest, -tiniest, 0}, impl.Vec{1, -1, 0})
}

// solved eliminates with a list of rows that change places, and columns of which the last one is v.
func solved(m impl.Mat, v impl.Vec) (impl.Vec, bool) {
	var table [3][4]float32
	for i := range 3 {
		table[i] = [4]float32{m[i][0], m[i][1], m[i][2], v[i]}
	}
	order, fine := [3]int{0, 1, 2}, true
	note := func(a float32) float32 {
		fine = fine && isFinite(a)
		return a
	}
	for k := range 3 {
		best := k
		for i := k; i < 3; i++ {
			if math.Abs(float64(table[order[i]][k])) > math.Abs(float64(table[order[best]][k])) {
				best = i
			}
		}
		order[k], order[best] = order[best], order[k]
		top := table[order[k]]
		for _, i := range order[k+1:] {
			f := note(quotient(table[i][k], top[k]))
			for j := k + 1; j < 4; j++ {
				table[i][j] = note(difference(table[i][j], note(product(f, top[j]))))
			}
		}
	}
	var x impl.Vec
	for k := 2; k >= 0; k-- {
		row := table[order[k]]
		s := row[3]
		for j := k + 1; j < 3; j++ {
			s = note(difference(s, note(product(row[j], x[j]))))
		}
		x[k] = note(quotient(s, row[k]))
	}
	return x, fine
}

func TestSolveMatToTheLastBit(t *testing.T) {
	d := &dice{seed: 7}
	done := 0
	for i := range 60000 {
		of := d.any
		if i%3 == 0 {
			of = d.unit
		} else if i%3 == 1 {
			of = func() float32 { return d.whole(2) / 3 }
		}
		m, v := matFrom(of), vecFrom(of)
		x, code := impl.SolveMat(m, v)
		want, fine := solved(m, v)
		switch {
		case !finiteMat(m) || !finiteMat(impl.Mat{v}):
			wantCode(t, "SolveMat", code, impl.ErrInvalid)
			wantVec(t, "SolveMat", x, impl.Vec{})
		case !fine:
			wantCode(t, "SolveMat", code, impl.ErrState)
			wantVec(t, "SolveMat", x, impl.Vec{})
		default:
			wantCode(t, "SolveMat", code, impl.OK)
			wantVec(t, "SolveMat", x, want)
			done++
		}
	}
	if done < 20000 {
		t.Errorf("only %d were solved", done)
	}
}

func finiteMat(m impl.Mat) bool {
	for _, row := range m {
		for _, a := range row {
			if !isFinite(a) {
				return false
			}
		}
	}
	return true
}

// TestWhatIsSolvedIsTakenBack allows as much as a few roundings of the greatest numbers make.
func TestWhatIsSolvedIsTakenBack(t *testing.T) {
	d := &dice{seed: 8}
	for i := range 20000 {
		m, v := matFrom(d.unit), vecFrom(d.unit)
		if i%2 == 0 {
			m[i%3][d.below(3)] /= 1 << 20
		}
		x, code := impl.SolveMat(m, v)
		wantCode(t, "SolveMat", code, impl.OK)
		size := math.Abs(float64(x[0])) + math.Abs(float64(x[1])) + math.Abs(float64(x[2])) + 1
		for j := range 3 {
			got := float64(m[j][0])*float64(x[0]) + float64(m[j][1])*float64(x[1]) + float64(m[j][2])*float64(x[2])
			if math.Abs(got-float64(v[j])) > 2e-6*size {
				t.Errorf("SolveMat %v, %v: %v leads to %g", m, v, x, got)
			}
		}
	}
	wantSolved(t, "whole numbers", impl.Mat{{2, 1, 1}, {4, -6, 0}, {-2, 7, 2}}, impl.Vec{5, -2, 9}, impl.Vec{1, 1, 2})
}

func TestInverses(t *testing.T) {
	n, code := impl.InverseMat(impl.Mat{{0, 2, 0}, {1, 0, 0}, {0, 0, -4}})
	wantMat(t, "InverseMat", n, impl.Mat{{0, 1, 0}, {0.5, 0, 0}, {minusZero, minusZero, -0.25}})
	wantCode(t, "InverseMat", code, impl.OK)
	d := &dice{seed: 9}
	for range 5000 {
		m := impl.AddMat(matFrom(d.unit), impl.ScaleMat(impl.UnitMat(), 4))
		n, code := impl.InverseMat(m)
		wantCode(t, "InverseMat", code, impl.OK)
		for j := range 3 {
			var unit impl.Vec
			unit[j] = 1
			x, _ := solved(m, unit)
			wantVec(t, "a column of InverseMat", impl.Vec{n[0][j], n[1][j], n[2][j]}, x)
		}
		back := impl.MulMat(m, n)
		for i, row := range impl.UnitMat() {
			wantBool(t, "InverseMat leads back", impl.AreNear(back[i], row, 1e-5), true)
		}
	}
}

func wantNoMat(t *testing.T, what string, of func(impl.Mat) (impl.Mat, int64), m impl.Mat, want int64) {
	t.Helper()
	n, code := of(m)
	wantMat(t, what, n, impl.Mat{})
	wantCode(t, what, code, want)
}

func TestNoInverses(t *testing.T) {
	wantNoMat(t, "no numbers", impl.InverseMat, impl.Mat{}, impl.ErrState)
	wantNoMat(t, "equal rows", impl.InverseMat, impl.Mat{{1, 2, 3}, {0, 1, 0}, {1, 2, 3}}, impl.ErrState)
	wantNoMat(t, "too great, in the last column", impl.InverseMat, impl.Mat{{1, 0, 0}, {0, 1, 0}, {0, 0, 1e-40}}, impl.ErrState)
	wantNoMat(t, "too great, in the first column", impl.InverseMat, impl.Mat{{1e-40, 0, 0}, {0, 1, 0}, {0, 0, 1}}, impl.ErrState)
	for i := range 3 {
		for j := range 3 {
			var m impl.Mat
			m[i][j] = nan
			wantNoMat(t, "NaN", impl.InverseMat, m, impl.ErrInvalid)
			m[i][j] = -infinite
			wantNoMat(t, "infinite", impl.InverseMat, m, impl.ErrInvalid)
		}
	}
}

// rooted goes by the formulas for each place, every product being rounded first.
func rooted(m impl.Mat) (impl.Mat, bool) {
	a := root(m[0][0])
	b := quotient(m[1][0], a)
	cc := difference(m[1][1], product(b, b))
	c := root(cc)
	d := quotient(m[2][0], a)
	e := quotient(difference(m[2][1], product(d, b)), c)
	ff := difference(difference(m[2][2], product(d, d)), product(e, e))
	fine := m[0][0] > 0 && cc > 0 && ff > 0 && isFinite(ff)
	return impl.Mat{{a, 0, 0}, {b, c, 0}, {d, e, root(ff)}}, fine
}

func TestRootMatToTheLastBit(t *testing.T) {
	d := &dice{seed: 10}
	for i := range 20000 {
		n := matFrom(d.unit)
		m := impl.AddMat(impl.MulMat(n, impl.TransposeMat(n)), impl.ScaleMat(impl.UnitMat(), 0.01))
		if i%2 == 0 {
			m = matFrom(d.any)
		}
		r, code := impl.RootMat(m)
		want, fine := rooted(m)
		switch {
		case !finiteMat(m):
			wantCode(t, "RootMat", code, impl.ErrInvalid)
			wantMat(t, "RootMat", r, impl.Mat{})
		case !fine:
			wantCode(t, "RootMat", code, impl.ErrState)
			wantMat(t, "RootMat", r, impl.Mat{})
		default:
			wantCode(t, "RootMat", code, impl.OK)
			wantMat(t, "RootMat", r, want)
		}
		if i%2 == 0 {
			continue
		}
		wantBool(t, "RootMat is found", fine, true)
		back := impl.MulMat(r, impl.TransposeMat(r))
		for i := range 3 {
			wantBool(t, "RootMat leads back", impl.AreNear(back[i], m[i], 1e-6), true)
		}
	}
}

func wantRoot(t *testing.T, what string, m, want impl.Mat) {
	t.Helper()
	r, code := impl.RootMat(m)
	wantMat(t, what, r, want)
	wantCode(t, what, code, impl.OK)
}

func TestRoots(t *testing.T) {
	want := impl.Mat{{2, 0, 0}, {-1, 3, 0}, {4, 5, 1}}
	wantRoot(t, "small numbers", impl.MulMat(want, impl.TransposeMat(want)), want)
	wantRoot(t, "above the diagonal", impl.Mat{{4, 99, -greatest}, {-2, 10, tiniest}, {8, 11, 42}}, want)
	wantRoot(t, "-0", impl.Mat{{4, minusZero, minusZero}, {minusZero, 1, minusZero}, {0, minusZero, 1}}, impl.Mat{{2, 0, 0}, {minusZero, 1, 0}, {0, 0, 1}})
	wantRoot(t, "subnormal", impl.ScaleMat(impl.UnitMat(), tiniest), impl.ScaleMat(impl.UnitMat(), root(tiniest)))
	wantRoot(t, "one product after the other", impl.Mat{{1, 0, 0}, {0, 1, 0}, {1, 1, 1<<24 + 2}}, impl.Mat{{1, 0, 0}, {0, 1, 0}, {1, 1, 4096 - 1.0/4096}})
}

func TestNoRoots(t *testing.T) {
	for i := range 3 {
		for _, a := range []float32{0, minusZero, -1, -tiniest, -greatest} {
			m := impl.UnitMat()
			m[i][i] = a
			wantNoMat(t, "not greater than 0", impl.RootMat, m, impl.ErrState)
		}
		for j := range 3 {
			for _, a := range []float32{infinite, -infinite, nan, otherNaN} {
				m := impl.UnitMat()
				m[i][j] = a
				wantNoMat(t, "not finite", impl.RootMat, m, impl.ErrInvalid)
				wantNoMat(t, "not finite, and negative", impl.RootMat, impl.AddMat(m, impl.ScaleMat(impl.UnitMat(), -2)), impl.ErrInvalid)
			}
		}
	}
	wantNoMat(t, "less than a square", impl.RootMat, impl.Mat{{1, 0, 0}, {2, 1, 0}, {0, 0, 1}}, impl.ErrState)
	wantNoMat(t, "just a square", impl.RootMat, impl.Mat{{1, 0, 0}, {2, 4, 0}, {0, 0, 1}}, impl.ErrState)
	wantNoMat(t, "a square that is too great", impl.RootMat, impl.Mat{{1e-30, 0, 0}, {1e20, 1, 0}, {0, 0, 1}}, impl.ErrState)
	wantNoMat(t, "a quotient that is too great", impl.RootMat, impl.Mat{{1e-40, 0, 0}, {3e38, 1, 0}, {0, 0, 1}}, impl.ErrState)
	wantNoMat(t, "one that becomes NaN", impl.RootMat, impl.Mat{{1e-40, 0, 0}, {0, 1, 0}, {3e38, 0, 1}}, impl.ErrState)
}
