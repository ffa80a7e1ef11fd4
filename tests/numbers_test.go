package tests

import (
	"math"
	"testing"

	"loop.example/g01204/impl"
)

// Numbers that the tests of several layers need.
var (
	minusZero = float32(math.Copysign(0, -1))
	infinite  = float32(math.Inf(1))
	nan       = math.Float32frombits(0x7fc00000)
	otherNaN  = math.Float32frombits(0xff812345)
	tiniest   = math.Float32frombits(1)
	greatest  = float32(math.MaxFloat32)
)

// specials are numbers on which a careless program goes wrong.
func specials() []float32 {
	return []float32{
		0, minusZero, 1, -1, 0.5, 3, -7, 1.0 / 3, 1 << 24, 1<<24 + 2, 1 << 25, 1 + 1.0/4096,
		tiniest, -tiniest, math.Float32frombits(0x007fffff), math.Float32frombits(0x00800000),
		1e-30, 1e-22, 1e30, -1e20, greatest, -greatest, infinite, -infinite, nan, otherNaN,
	}
}

// dice gives the same numbers in each run.
type dice struct{ seed uint64 }

func (d *dice) next() uint64 {
	d.seed = d.seed*6364136223846793005 + 1442695040888963407
	return d.seed >> 33
}

func (d *dice) below(n int) int { return int(d.next() % uint64(n)) }

// whole returns a small integer, from -most to most.
func (d *dice) whole(most int) float32 { return float32(d.below(2*most+1) - most) }

// unit returns a number from -1 up to 1, with all its bits in use.
func (d *dice) unit() float32 { return float32(int64(d.next())-1<<30) / (1 << 30) }

// any returns a number of any kind.
func (d *dice) any() float32 {
	switch d.below(4) {
	case 0:
		list := specials()
		return list[d.below(len(list))]
	case 1:
		return d.whole(3)
	case 2:
		return math.Float32frombits(uint32(d.next()<<16 ^ d.next()))
	}
	return d.unit()
}

func vecFrom(of func() float32) impl.Vec { return impl.Vec{of(), of(), of()} }

func matFrom(of func() float32) impl.Mat { return impl.Mat{vecFrom(of), vecFrom(of), vecFrom(of)} }

// The operations, each one rounded once: a wide number has more than twice the
// bits of a narrow one, so that its rounding does not change that of the result.
func sum(a, b float32) float32        { return float32(float64(a) + float64(b)) }
func difference(a, b float32) float32 { return float32(float64(a) - float64(b)) }
func product(a, b float32) float32    { return float32(float64(a) * float64(b)) }
func quotient(a, b float32) float32   { return float32(float64(a) / float64(b)) }
func root(a float32) float32          { return float32(math.Sqrt(float64(a))) }

func isFinite(a float32) bool { return !math.IsNaN(float64(a)) && !math.IsInf(float64(a), 0) }

// same is written without the package, which is tested with it.
func same(a, b float32) bool {
	if a != a || b != b {
		return a != a && b != b
	}
	return a == b && math.Signbit(float64(a)) == math.Signbit(float64(b))
}

func sameVec(u, v impl.Vec) bool {
	return same(u[0], v[0]) && same(u[1], v[1]) && same(u[2], v[2])
}

func sameMat(m, n impl.Mat) bool {
	return sameVec(m[0], n[0]) && sameVec(m[1], n[1]) && sameVec(m[2], n[2])
}

func wantNumber(t *testing.T, what string, got, want float32) {
	t.Helper()
	if !same(got, want) {
		t.Errorf("%s: got %g (%08x), want %g (%08x)", what, got, math.Float32bits(got), want, math.Float32bits(want))
	}
}

func wantVec(t *testing.T, what string, got, want impl.Vec) {
	t.Helper()
	if !sameVec(got, want) {
		t.Errorf("%s: got %v, want %v", what, got, want)
	}
}

func wantMat(t *testing.T, what string, got, want impl.Mat) {
	t.Helper()
	if !sameMat(got, want) {
		t.Errorf("%s: got %v, want %v", what, got, want)
	}
}

func wantCode(t *testing.T, what string, got, want int64) {
	t.Helper()
	if got != want {
		t.Errorf("%s: got code %d, want %d", what, got, want)
	}
}

func wantBool(t *testing.T, what string, got, want bool) {
	t.Helper()
	if got != want {
		t.Errorf("%s: got %t, want %t", what, got, want)
	}
}
