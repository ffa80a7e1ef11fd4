package tests

import (
	"math"
	"testing"

	"loop.example/g01204/impl"
)

func TestExampleOfChapter1(t *testing.T) {
	wantVec(t, "CrossVec", impl.CrossVec(impl.Vec{1, 0, 0}, impl.Vec{0, 1, 0}), impl.Vec{0, 0, 1})
	wantNumber(t, "LengthOf", impl.LengthOf(impl.Vec{3, 4, 0}), 5)
	u, code := impl.UnitOf(impl.Vec{3, 4, 0})
	wantVec(t, "UnitOf", u, impl.Vec{quotient(3, 5), quotient(4, 5), 0})
	wantCode(t, "UnitOf", code, impl.OK)
	wantNumber(t, "DeterminantOf", impl.DeterminantOf(impl.UnitMat()), 1)
	x, code := impl.SolveMat(impl.ScaleMat(impl.UnitMat(), 2), impl.Vec{2, 4, 6})
	wantVec(t, "SolveMat", x, impl.Vec{1, 2, 3})
	wantCode(t, "SolveMat", code, impl.OK)
	r, code := impl.RootMat(impl.ScaleMat(impl.UnitMat(), 4))
	wantMat(t, "RootMat", r, impl.Mat{{2, 0, 0}, {0, 2, 0}, {0, 0, 2}})
	wantCode(t, "RootMat", code, impl.OK)
}

func TestCodes(t *testing.T) {
	codes := []int64{impl.OK, impl.ErrInvalid, impl.ErrRange, impl.ErrLimit, impl.ErrState, impl.ErrSyntax, impl.ErrNotFound, impl.ErrBudget, impl.ErrProof}
	names := []string{"ok", "invalid", "range", "limit", "state", "syntax", "notfound", "budget", "proof"}
	for i, name := range names {
		wantCode(t, name, codes[i], int64(i))
		if got := impl.CodeName(int64(i)); got != name {
			t.Errorf("CodeName %d: got %q, want %q", i, got, name)
		}
	}
	for _, code := range []int64{-1, 9, 256, 1 << 32, math.MaxInt64, math.MinInt64} {
		if got := impl.CodeName(code); got != "" {
			t.Errorf("CodeName %d: got %q, want none", code, got)
		}
	}
}

func TestSameNumbers(t *testing.T) {
	wantBool(t, "0 and -0", impl.SameNumber(0, minusZero), false)
	wantBool(t, "-0 and -0", impl.SameNumber(minusZero, minusZero), true)
	wantBool(t, "two NaNs", impl.SameNumber(nan, otherNaN), true)
	wantBool(t, "NaN and infinite", impl.SameNumber(nan, infinite), false)
	wantBool(t, "both infinite ones", impl.SameNumber(infinite, -infinite), false)
	wantBool(t, "1 and the next one", impl.SameNumber(1, math.Nextafter32(1, 2)), false)
	for _, a := range specials() {
		for _, b := range specials() {
			wantBool(t, "SameNumber", impl.SameNumber(a, b), same(a, b))
		}
	}
}

// TestEachPlace changes one place after another, which shows that each is looked at.
func TestEachPlace(t *testing.T) {
	m := impl.Mat{{1, 0, otherNaN}, {4, infinite, 6}, {7, 8, 9}}
	wantBool(t, "SameMat of NaNs", impl.SameMat(m, impl.Mat{{1, 0, nan}, {4, infinite, 6}, {7, 8, 9}}), true)
	wantBool(t, "IsFiniteMat", impl.IsFiniteMat(impl.Mat{{greatest, tiniest, minusZero}}), true)
	for i := range 3 {
		for j := range 3 {
			n := m
			n[i][j] = -5
			wantBool(t, "SameMat", impl.SameMat(m, n), false)
			wantBool(t, "SameVec of other rows", impl.SameVec(m[i], n[i]), false)
			wantBool(t, "SameVec of equal rows", impl.SameVec(m[(i+1)%3], n[(i+1)%3]), true)
			for _, a := range []float32{infinite, -infinite, nan, otherNaN} {
				var p impl.Mat
				p[i][j] = a
				wantBool(t, "IsFiniteMat", impl.IsFiniteMat(p), false)
				wantBool(t, "IsFiniteVec", impl.IsFiniteVec(p[i]), false)
				wantBool(t, "IsFiniteVec of another row", impl.IsFiniteVec(p[(i+1)%3]), true)
			}
		}
	}
	wantBool(t, "SameVec of 0 and -0", impl.SameVec(impl.Vec{0, 0, 0}, impl.Vec{0, 0, minusZero}), false)
	wantBool(t, "SameMat of 0 and -0", impl.SameMat(impl.Mat{}, impl.Mat{{}, {0, minusZero, 0}}), false)
}

// TestSmallNumbers holds everything against integers.
func TestSmallNumbers(t *testing.T) {
	d := &dice{seed: 1}
	for range 3000 {
		m, n := matFrom(func() float32 { return d.whole(60) }), matFrom(func() float32 { return d.whole(60) })
		by := d.whole(60)
		var add, scaled, outer, through, turned impl.Mat
		for i := range 3 {
			for j := range 3 {
				add[i][j] = float32(int(m[i][j]) + int(n[i][j]))
				scaled[i][j] = same0(int(m[i][j])*int(by), m[i][j], by)
				outer[i][j] = same0(int(m[0][i])*int(n[0][j]), m[0][i], n[0][j])
				turned[j][i] = m[i][j]
				s := 0
				for k := range 3 {
					s += int(m[i][k]) * int(n[k][j])
				}
				through[i][j] = float32(s)
			}
		}
		equalMat(t, "AddMat", impl.AddMat(m, n), add)
		wantMat(t, "ScaleMat", impl.ScaleMat(m, by), scaled)
		wantMat(t, "OuterOf", impl.OuterOf(m[0], n[0]), outer)
		wantMat(t, "TransposeMat", impl.TransposeMat(m), turned)
		equalMat(t, "MulMat", impl.MulMat(m, n), through)
		wantVec(t, "ScaleVec", impl.ScaleVec(m[1], by), scaled[1])
		smallVecs(t, m, n)
	}
}

// same0 returns a product as a narrow number, 0 having the sign that two factors give it.
func same0(p int, a, b float32) float32 {
	if p == 0 && math.Signbit(float64(a)) != math.Signbit(float64(b)) {
		return minusZero
	}
	return float32(p)
}

// equalMat takes 0 for -0.
func equalMat(t *testing.T, what string, got, want impl.Mat) {
	t.Helper()
	if got != want {
		t.Errorf("%s: got %v, want %v", what, got, want)
	}
}

func equal(t *testing.T, what string, got float32, want int) {
	t.Helper()
	if got != float32(want) {
		t.Errorf("%s: got %g, want %d", what, got, want)
	}
}

func smallVecs(t *testing.T, m, n impl.Mat) {
	t.Helper()
	var a, b [3][3]int
	for i := range 3 {
		for j := range 3 {
			a[i][j], b[i][j] = int(m[i][j]), int(n[i][j])
		}
	}
	u, v := a[1], b[1]
	sums, differences, cross, taken := impl.AddVec(m[1], n[1]), impl.SubVec(m[1], n[1]), impl.CrossVec(m[1], n[1]), impl.MulMatVec(m, n[2])
	for i := range 3 {
		j, k := (i+1)%3, (i+2)%3
		equal(t, "AddVec", sums[i], u[i]+v[i])
		equal(t, "SubVec", differences[i], u[i]-v[i])
		equal(t, "CrossVec", cross[i], u[j]*v[k]-u[k]*v[j])
		equal(t, "MulMatVec", taken[i], a[i][0]*b[2][0]+a[i][1]*b[2][1]+a[i][2]*b[2][2])
	}
	equal(t, "DotVec", impl.DotVec(m[1], n[1]), u[0]*v[0]+u[1]*v[1]+u[2]*v[2])
	equal(t, "TraceOf", impl.TraceOf(m), a[0][0]+a[1][1]+a[2][2])
	det := 0
	for i := range 3 {
		j, k := (i+1)%3, (i+2)%3
		det += a[0][i] * (a[1][j]*a[2][k] - a[1][k]*a[2][j])
	}
	equal(t, "DeterminantOf", impl.DeterminantOf(m), det)
}

func TestUnitMat(t *testing.T) {
	wantMat(t, "UnitMat", impl.UnitMat(), impl.Mat{{1, 0, 0}, {0, 1, 0}, {0, 0, 1}})
}

func TestSumsGoFromLeftToRight(t *testing.T) {
	big, ones := impl.Vec{1 << 24, 1, 1}, impl.Vec{1, 1, 1}
	wantNumber(t, "DotVec", impl.DotVec(big, ones), 1<<24)
	wantNumber(t, "DotVec", impl.DotVec(impl.Vec{1, 1, 1 << 24}, ones), 1<<24+2)
	wantNumber(t, "DotVec", impl.DotVec(impl.Vec{infinite, -infinite, 1}, ones), nan)
	wantNumber(t, "DotVec", impl.DotVec(impl.Vec{greatest, greatest, -infinite}, ones), nan)
	wantNumber(t, "TraceOf", impl.TraceOf(impl.Mat{{1 << 24}, {0, 1}, {0, 0, 1}}), 1<<24)
	wantNumber(t, "TraceOf", impl.TraceOf(impl.Mat{{1}, {0, 1}, {0, 0, 1 << 24}}), 1<<24+2)
	wantVec(t, "MulMatVec", impl.MulMatVec(impl.Mat{big}, ones), impl.Vec{1 << 24, 0, 0})
	wantMat(t, "MulMat", impl.MulMat(impl.Mat{big}, impl.Mat{{1}, {1}, {1}}), impl.Mat{{1 << 24}})
	wantNumber(t, "DeterminantOf", impl.DeterminantOf(impl.Mat{big, {1, -1, 0}, {0, 1, -1}}), 1<<24)
}

func TestSumsBeginWithTheFirstNumber(t *testing.T) {
	zeros := impl.Vec{minusZero, minusZero, minusZero}
	wantNumber(t, "DotVec", impl.DotVec(zeros, impl.Vec{1, 1, 1}), minusZero)
	wantNumber(t, "TraceOf", impl.TraceOf(impl.Mat{zeros, zeros, zeros}), minusZero)
	wantVec(t, "MulMatVec", impl.MulMatVec(impl.Mat{zeros, zeros, zeros}, impl.Vec{1, 1, 1}), zeros)
	wantNumber(t, "LengthOf", impl.LengthOf(zeros), 0)
	wantVec(t, "AddVec", impl.AddVec(zeros, zeros), zeros)
	wantVec(t, "AddVec", impl.AddVec(zeros, impl.Vec{}), impl.Vec{})
	wantVec(t, "SubVec", impl.SubVec(zeros, zeros), impl.Vec{})
	wantVec(t, "SubVec", impl.SubVec(zeros, impl.Vec{}), zeros)
	wantVec(t, "ScaleVec", impl.ScaleVec(impl.Vec{0, 1, -1}, minusZero), impl.Vec{minusZero, minusZero, 0})
}

// The square of a is 1 + 2^-11 + 2^-24, of which the last part is rounded away.
func TestProductsAreRoundedFirst(t *testing.T) {
	const a = 1 + 1.0/4096
	const b = 1 + 1.0/2048
	wantNumber(t, "DotVec, the first product", impl.DotVec(impl.Vec{a, -b, 0}, impl.Vec{a, 1, 0}), 0)
	wantNumber(t, "DotVec, the second product", impl.DotVec(impl.Vec{-b, a, 0}, impl.Vec{1, a, 0}), 0)
	wantNumber(t, "DotVec, the third product", impl.DotVec(impl.Vec{-b, 0, a}, impl.Vec{1, 0, a}), 0)
	for i := range 3 {
		j, k := (i+1)%3, (i+2)%3
		var u, v impl.Vec
		u[j], v[k], u[k], v[j] = a, a, b, 1
		wantVec(t, "CrossVec", impl.CrossVec(u, v), impl.Vec{})
		wantVec(t, "CrossVec", impl.CrossVec(v, u), impl.Vec{})
	}
	wantNumber(t, "DeterminantOf", impl.DeterminantOf(impl.Mat{{1, 0, 0}, {0, a, b}, {0, 1, a}}), 0)
	wantNumber(t, "a product that is too small", impl.DotVec(impl.Vec{1e-30, 1e-30, 1}, impl.Vec{1e-30, 1e-30, tiniest}), tiniest)
	wantNumber(t, "a product that is too great", impl.DotVec(impl.Vec{1e30, 1e30, 0}, impl.Vec{1e30, -1e30, 0}), nan)
}

func TestRoundings(t *testing.T) {
	d := &dice{seed: 2}
	for range 20000 {
		u, v, by := vecFrom(d.any), vecFrom(d.any), d.any()
		var sums, differences, scaled, cross impl.Vec
		for i := range 3 {
			j, k := (i+1)%3, (i+2)%3
			sums[i], differences[i], scaled[i] = sum(u[i], v[i]), difference(u[i], v[i]), product(u[i], by)
			cross[i] = difference(product(u[j], v[k]), product(u[k], v[j]))
		}
		wantVec(t, "AddVec", impl.AddVec(u, v), sums)
		wantVec(t, "SubVec", impl.SubVec(u, v), differences)
		wantVec(t, "ScaleVec", impl.ScaleVec(u, by), scaled)
		wantVec(t, "CrossVec", impl.CrossVec(u, v), cross)
		wantNumber(t, "DotVec", impl.DotVec(u, v), dotOf(u, v))
		wantNumber(t, "LengthOf", impl.LengthOf(u), root(dotOf(u, u)))
	}
}

func dotOf(u, v impl.Vec) float32 {
	return sum(sum(product(u[0], v[0]), product(u[1], v[1])), product(u[2], v[2]))
}

func TestRoundingsOfMatrices(t *testing.T) {
	d := &dice{seed: 3}
	for range 5000 {
		m, n, by := matFrom(d.any), matFrom(d.any), d.any()
		var sums, scaled, outer, through impl.Mat
		var taken impl.Vec
		for i := range 3 {
			taken[i] = dotOf(m[i], n[0])
			for j := range 3 {
				sums[i][j], scaled[i][j], outer[i][j] = sum(m[i][j], n[i][j]), product(m[i][j], by), product(m[0][i], n[0][j])
				through[i][j] = dotOf(m[i], impl.Vec{n[0][j], n[1][j], n[2][j]})
			}
		}
		wantMat(t, "AddMat", impl.AddMat(m, n), sums)
		wantMat(t, "ScaleMat", impl.ScaleMat(m, by), scaled)
		wantMat(t, "OuterOf", impl.OuterOf(m[0], n[0]), outer)
		wantMat(t, "MulMat", impl.MulMat(m, n), through)
		wantVec(t, "MulMatVec", impl.MulMatVec(m, n[0]), taken)
		wantNumber(t, "TraceOf", impl.TraceOf(m), sum(sum(m[0][0], m[1][1]), m[2][2]))
		wantNumber(t, "DeterminantOf", impl.DeterminantOf(m), dotOf(m[0], impl.CrossVec(m[1], m[2])))
	}
}

// TestRootsAreNearest holds the square root against the middles between it and its neighbours, whose squares are exact when they are wide.
func TestRootsAreNearest(t *testing.T) {
	d := &dice{seed: 4}
	for range 20000 {
		v := impl.Vec{d.unit() * float32(math.Ldexp(1, d.below(120)-60))}
		square, got := float64(product(v[0], v[0])), impl.LengthOf(v)
		low := (float64(got) + float64(math.Nextafter32(got, 0))) / 2
		high := (float64(got) + float64(math.Nextafter32(got, infinite))) / 2
		if square != 0 && (low*low > square || high*high < square) {
			t.Errorf("LengthOf %v: %g is not nearest", v, got)
		}
	}
}

func TestLengths(t *testing.T) {
	wantNumber(t, "of 2, 3, 6", impl.LengthOf(impl.Vec{2, -3, 6}), 7)
	wantNumber(t, "of great numbers", impl.LengthOf(impl.Vec{1e30, 0, 0}), infinite)
	wantNumber(t, "of small numbers", impl.LengthOf(impl.Vec{1e-30, 1e-30, 0}), 0)
	wantNumber(t, "of an infinite number", impl.LengthOf(impl.Vec{1, -infinite, 0}), infinite)
	wantNumber(t, "of NaN", impl.LengthOf(impl.Vec{1, infinite, otherNaN}), nan)
}

func TestUnitOf(t *testing.T) {
	for _, v := range []impl.Vec{{}, {minusZero, 0, 0}, {1e-30, 0, 0}, {0, tiniest, 0}, {1e30, 0, 0}, {greatest, greatest, 0}, {0, 0, infinite}, {-infinite, 0, 0}, {0, nan, 1}, {otherNaN, infinite, 0}} {
		u, code := impl.UnitOf(v)
		wantVec(t, "no UnitOf", u, impl.Vec{})
		wantCode(t, "no UnitOf", code, impl.ErrState)
	}
	d := &dice{seed: 5}
	for range 5000 {
		v := vecFrom(d.unit)
		u, code := impl.UnitOf(v)
		length := root(dotOf(v, v))
		wantVec(t, "UnitOf", u, impl.Vec{quotient(v[0], length), quotient(v[1], length), quotient(v[2], length)})
		wantCode(t, "UnitOf", code, impl.OK)
		if size := impl.LengthOf(u); size < 0.999999 || size > 1.000001 {
			t.Errorf("UnitOf %v has the length %g", v, size)
		}
	}
	u, code := impl.UnitOf(impl.Vec{1e-22, minusZero, 0})
	wantVec(t, "UnitOf subnormal squares", u, impl.Vec{quotient(1e-22, root(product(1e-22, 1e-22))), minusZero, 0})
	wantCode(t, "UnitOf subnormal squares", code, impl.OK)
}

func TestAreNear(t *testing.T) {
	at := impl.Vec{1, 2, 3}
	for i := range 3 {
		v := at
		v[i] += 0.5
		wantBool(t, "the bound itself", impl.AreNear(at, v, 0.5), true)
		wantBool(t, "the other way", impl.AreNear(v, at, 0.5), true)
		wantBool(t, "farther", impl.AreNear(at, v, 0.49), false)
		wantBool(t, "farther the other way", impl.AreNear(v, at, 0.49), false)
		v[i] = nan
		wantBool(t, "NaN", impl.AreNear(at, v, infinite), false)
		wantBool(t, "NaN itself", impl.AreNear(v, v, infinite), false)
		v[i] = infinite
		wantBool(t, "infinite", impl.AreNear(at, v, infinite), true)
		wantBool(t, "infinite and a finite bound", impl.AreNear(at, v, greatest), false)
		wantBool(t, "the difference of infinite ones", impl.AreNear(v, v, infinite), false)
	}
	wantBool(t, "itself", impl.AreNear(at, at, 0), true)
	wantBool(t, "itself, bound -0", impl.AreNear(at, at, minusZero), true)
	wantBool(t, "a negative bound", impl.AreNear(at, at, -tiniest), false)
	wantBool(t, "no bound", impl.AreNear(at, at, nan), false)
}

func TestCrossProductsStandUpright(t *testing.T) {
	d := &dice{seed: 6}
	for range 5000 {
		u, v := vecFrom(d.unit), vecFrom(d.unit)
		w := impl.CrossVec(u, v)
		for _, a := range []float32{impl.DotVec(u, w), impl.DotVec(v, w)} {
			if a > 1e-6 || a < -1e-6 {
				t.Errorf("CrossVec %v and %v: %g is not upright", u, v, a)
			}
		}
	}
}
