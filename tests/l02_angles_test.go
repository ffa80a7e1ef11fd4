package tests

import (
	"math"
	"math/big"
	"testing"

	"loop.example/g01204/impl"
)

const wideTurn = 6.283185307179586

// wide makes one wide operation with great numbers of just as many bits, which
// are rounded once on every machine.
func wide(op func(z, x, y *big.Float) *big.Float, a, b float64) float64 {
	z, _ := op(new(big.Float).SetPrec(53), big.NewFloat(a), big.NewFloat(b)).Float64()
	return z
}

func wideSum(a, b float64) float64        { return wide((*big.Float).Add, a, b) }
func wideDifference(a, b float64) float64 { return wide((*big.Float).Sub, a, b) }
func wideProduct(a, b float64) float64    { return wide((*big.Float).Mul, a, b) }
func wideQuotient(a, b float64) float64   { return wide((*big.Float).Quo, a, b) }

func wideRoot(a float64) float64 {
	z, _ := new(big.Float).SetPrec(53).Sqrt(big.NewFloat(a)).Float64()
	return z
}

// turnsOf returns an angle in whole turns.
func turnsOf(angle float32) float64 { return wideQuotient(float64(angle), wideTurn) }

// sineAt reckons the sine of an angle in whole turns once more.
func sineAt(t float64) float32 {
	f := wideDifference(t, math.Floor(t))
	sign := 1.0
	if f >= 0.5 {
		sign, f = -1, wideDifference(f, 0.5)
	}
	if f > 0.25 {
		f = wideDifference(0.5, f)
	}
	x := wideProduct(wideTurn, f)
	y := wideProduct(x, x)
	s := 1.0
	for _, by := range []float64{272, 210, 156, 110, 72, 42, 20, 6} {
		s = wideDifference(1, wideProduct(wideQuotient(y, by), s))
	}
	return float32(sign * wideProduct(s, x))
}

func sineOf(angle float32) float32 {
	if !isFinite(angle) {
		return nan
	}
	return sineAt(turnsOf(angle))
}

func cosineOf(angle float32) float32 {
	if !isFinite(angle) {
		return nan
	}
	return sineAt(wideSum(turnsOf(angle), 0.25))
}

// angleOf reckons the angle of x, y to the first axis once more.
func angleOf(y, x float32) float32 {
	if !isFinite(y) || !isFinite(x) {
		return nan
	}
	if y == 0 && x == 0 {
		return 0
	}
	a, b := math.Abs(float64(y)), math.Abs(float64(x))
	steep := a > b
	if steep {
		a, b = b, a
	}
	z := wideQuotient(a, b)
	for range 3 {
		z = wideQuotient(z, wideSum(1, wideRoot(wideSum(1, wideProduct(z, z)))))
	}
	y2, s := wideProduct(z, z), 0.0
	for by := 25.0; by >= 1; by -= 2 {
		s = wideDifference(wideQuotient(1, by), wideProduct(y2, s))
	}
	angle := wideProduct(wideProduct(8, z), s)
	if steep {
		angle = wideDifference(1.5707963267948966, angle)
	}
	if x < 0 {
		angle = wideDifference(3.141592653589793, angle)
	}
	if y < 0 {
		angle = -angle
	}
	return float32(angle)
}

// wrapOf takes whole turns away once more.
func wrapOf(angle float32) float32 {
	if !isFinite(angle) {
		return nan
	}
	t := turnsOf(angle)
	n := math.Floor(t)
	if rest := wideDifference(t, n); rest > 0.5 || rest == 0.5 && math.Mod(n, 2) != 0 {
		n++
	}
	a := float32(wideDifference(float64(angle), wideProduct(wideTurn, n)))
	if a == 0 {
		return 0
	}
	if a > impl.Pi {
		return impl.Pi
	}
	if a < -impl.Pi {
		return -impl.Pi
	}
	return a
}

// anAngle returns an angle of any size, most often of some whole turns.
func (d *dice) anAngle() float32 {
	switch d.below(4) {
	case 0:
		return d.any()
	case 1:
		return d.unit() * float32(math.Ldexp(1, d.below(60)-20))
	case 2:
		return float32(float64(d.whole(64)) * wideTurn / 16)
	}
	return d.unit() * 8
}

func TestExampleOfChapter2(t *testing.T) {
	wantNumber(t, "SineOf", impl.SineOf(0), 0)
	wantNumber(t, "AngleOf", impl.AngleOf(1, 1), math.Float32frombits(0x3f490fdb))
	q, code := impl.TurnAbout(impl.Vec{0, 0, 1}, impl.Pi/2)
	wantCode(t, "TurnAbout", code, impl.OK)
	wantBool(t, "TurnVec", impl.AreNear(impl.TurnVec(q, impl.Vec{1, 0, 0}), impl.Vec{0, 1, 0}, 1e-6), true)
	wantNear(t, "HeadingOf", impl.HeadingOf(q), impl.Pi/2, 1e-6)
	wantNumber(t, "AngleBetween", impl.AngleBetween(impl.UnitTurn(), impl.UnitTurn()), 0)
}

func wantNear(t *testing.T, what string, got float32, want, bound float64) {
	t.Helper()
	if !(math.Abs(float64(got)-want) <= bound) {
		t.Errorf("%s: got %g, want nearly %g", what, got, want)
	}
}

func TestConstantsOfChapter2(t *testing.T) {
	var pi float32 = impl.Pi
	wantNumber(t, "Pi", pi, math.Float32frombits(0x40490fdb))
	wantBool(t, "Pi is 3.1415927", impl.Pi == 3.1415927, true)
	wantCode(t, "MaxTurnSteps", impl.MaxTurnSteps, 1000)
}

// TestKnownAngles has bits that are known from elsewhere: the numbers nearest to the true ones.
func TestKnownAngles(t *testing.T) {
	for _, c := range []struct {
		what string
		got  float32
		bits uint32
	}{
		{"SineOf 1", impl.SineOf(1), 0x3f576aa4}, {"CosineOf 1", impl.CosineOf(1), 0x3f0a5140},
		{"SineOf -1", impl.SineOf(-1), 0xbf576aa4}, {"CosineOf -1", impl.CosineOf(-1), 0x3f0a5140},
		{"SineOf Pi", impl.SineOf(impl.Pi), 0xb3bbbd2e}, {"CosineOf Pi", impl.CosineOf(impl.Pi), 0xbf800000},
		{"SineOf -Pi", impl.SineOf(-impl.Pi), 0x33bbbd2e}, {"CosineOf half of Pi", impl.CosineOf(impl.Pi / 2), 0xb33bbd2e},
		{"SineOf half of Pi", impl.SineOf(impl.Pi / 2), 0x3f800000}, {"CosineOf 0", impl.CosineOf(0), 0x3f800000},
		{"AngleOf 1, 1", impl.AngleOf(1, 1), 0x3f490fdb}, {"AngleOf 1, 0", impl.AngleOf(1, 0), 0x3fc90fdb},
		{"AngleOf 0, -1", impl.AngleOf(0, -1), 0x40490fdb}, {"AngleOf 1, -1", impl.AngleOf(1, -1), 0x4016cbe4},
		{"AngleOf -1, -1", impl.AngleOf(-1, -1), 0xc016cbe4}, {"AngleOf -1, 0", impl.AngleOf(-1, 0), 0xbfc90fdb},
		{"AngleOf 1, 2", impl.AngleOf(1, 2), 0x3eed6338}, {"AngleOf 2, 1", impl.AngleOf(2, 1), 0x3f8db70d},
	} {
		wantNumber(t, c.what, c.got, math.Float32frombits(c.bits))
	}
}

func TestAnglesThatAreNotFinite(t *testing.T) {
	for _, a := range []float32{infinite, -infinite, nan, otherNaN} {
		wantNumber(t, "SineOf", impl.SineOf(a), nan)
		wantNumber(t, "CosineOf", impl.CosineOf(a), nan)
		wantNumber(t, "WrapAngle", impl.WrapAngle(a), nan)
		for _, b := range []float32{0, minusZero, 1, -1, greatest, infinite, -infinite, nan} {
			wantNumber(t, "AngleOf", impl.AngleOf(a, b), nan)
			wantNumber(t, "AngleOf", impl.AngleOf(b, a), nan)
		}
	}
}

func TestSinesOfSmallAngles(t *testing.T) {
	wantNumber(t, "SineOf 0", impl.SineOf(0), 0)
	wantNumber(t, "SineOf -0", impl.SineOf(minusZero), 0)
	wantNumber(t, "CosineOf -0", impl.CosineOf(minusZero), 1)
	wantNumber(t, "SineOf the tiniest", impl.SineOf(tiniest), tiniest)
	for _, a := range []float32{tiniest, math.Float32frombits(0x007fffff), 1e-30, 1e-17} {
		wantNear(t, "SineOf", impl.SineOf(a), float64(a), float64(a)/1e7)
		wantNumber(t, "CosineOf", impl.CosineOf(a), 1)
		wantNumber(t, "CosineOf the other way", impl.CosineOf(-a), 1)
		// So little less than 0 whole turns: f is rounded to 1, which is half a turn and a half.
		wantNumber(t, "SineOf the other way", impl.SineOf(-a), minusZero)
	}
	wantNumber(t, "SineOf -1e-15", impl.SineOf(-1e-15), sineOf(-1e-15))
	wantBool(t, "SineOf -1e-15 is not exact", impl.SineOf(-1e-15) != -1e-15, true)
}

// TestSinesOfQuarters looks for angles that are so great that they are just a number of quarters of a turn.
func TestSinesOfQuarters(t *testing.T) {
	found := map[float64]int{}
	sines := map[float64]float32{0: 0, 0.25: 1, 0.5: minusZero, 0.75: -1}
	cosines := map[float64]float32{0: 1, 0.25: minusZero, 0.5: -1, 0.75: 0}
	for i := range 400 {
		angle := math.Float32frombits(math.Float32bits(1.0e16) + uint32(i))
		if i%2 != 0 {
			angle = -angle
		}
		turns := float64(angle) / wideTurn
		f := turns - math.Floor(turns)
		found[f]++
		wantNumber(t, "SineOf quarters", impl.SineOf(angle), sines[f])
		wantNumber(t, "CosineOf quarters", impl.CosineOf(angle), cosines[f])
	}
	for f := range sines {
		if found[f] < 50 {
			t.Errorf("only %d angles with %g", found[f], f)
		}
	}
	wantNumber(t, "SineOf the greatest", impl.SineOf(greatest), 0)
	wantNumber(t, "CosineOf the greatest", impl.CosineOf(greatest), 0) // a quarter more is lost there
	wantNumber(t, "SineOf the least", impl.SineOf(-greatest), 0)
}

func TestSinesBitByBit(t *testing.T) {
	d := &dice{seed: 21}
	for range 20000 {
		a := d.anAngle()
		wantNumber(t, "SineOf", impl.SineOf(a), sineOf(a))
		wantNumber(t, "CosineOf", impl.CosineOf(a), cosineOf(a))
	}
	for _, a := range specials() {
		wantNumber(t, "SineOf", impl.SineOf(a), sineOf(a))
		wantNumber(t, "CosineOf", impl.CosineOf(a), cosineOf(a))
	}
}

// TestTermsOfSeries has rare angles at which a term more or less, or another order of the terms, changes the last bit.
func TestTermsOfSeries(t *testing.T) {
	for _, bits := range []uint32{0x3fa7962d, 0x3fbb6e45, 0x3fbcdb1d, 0x44681b68, 0x4586742a, 0x45c6116d} {
		a := math.Float32frombits(bits)
		wantNumber(t, "SineOf", impl.SineOf(a), sineOf(a))
	}
	for _, bits := range []uint32{0x397ff96d, 0x397ff975, 0x39800000, 0x39800003, 0x39800005, 0x3ae00002} {
		a := math.Float32frombits(bits)
		wantNumber(t, "CosineOf", impl.CosineOf(a), cosineOf(a))
	}
	for _, c := range [][2]float32{{569175, 766161}, {998656, 965919}, {1000909, 989735}, {454063, 574618}, {625199, 628185}, {585141, 647106}, {131987, -350626}} {
		wantNumber(t, "AngleOf", impl.AngleOf(c[0], c[1]), angleOf(c[0], c[1]))
	}
}

func TestSinesLieOnTheCircle(t *testing.T) {
	d := &dice{seed: 22}
	for range 20000 {
		a := d.unit() * 100
		s, c := impl.SineOf(a), impl.CosineOf(a)
		wantNear(t, "SineOf", s, math.Sin(float64(a)), 7e-8)
		wantNear(t, "CosineOf", c, math.Cos(float64(a)), 7e-8)
		wantNear(t, "the circle", s*s+c*c, 1, 3e-7)
		wantNear(t, "the way back", impl.WrapAngle(impl.AngleOf(s, c)-impl.WrapAngle(a)), 0, 1e-6)
		wantNear(t, "SineOf the wrapped angle", impl.SineOf(impl.WrapAngle(a)), float64(s), 1e-6)
	}
}

func TestAnglesOfZeros(t *testing.T) {
	for _, zero := range []float32{0, minusZero} {
		wantNumber(t, "both 0", impl.AngleOf(zero, 0), 0)
		wantNumber(t, "both 0, x is -0", impl.AngleOf(zero, minusZero), 0)
		for _, a := range []float32{tiniest, 1, 1e-30, greatest} {
			wantNumber(t, "y is 0", impl.AngleOf(zero, a), 0)
			wantNumber(t, "y is 0, x negative", impl.AngleOf(zero, -a), impl.Pi)
			wantNumber(t, "x is 0", impl.AngleOf(a, zero), impl.Pi/2)
			wantNumber(t, "x is 0, y negative", impl.AngleOf(-a, zero), -impl.Pi/2)
		}
	}
	wantNumber(t, "a quotient that is not narrow", impl.AngleOf(tiniest, greatest), 0)
	wantNumber(t, "and the other way", impl.AngleOf(-tiniest, greatest), minusZero)
}

func TestAnglesOfEqualSizes(t *testing.T) {
	for _, a := range []float32{tiniest, 1, 3, 1e30, greatest} {
		wantNumber(t, "both positive", impl.AngleOf(a, a), math.Float32frombits(0x3f490fdb))
		wantNumber(t, "y negative", impl.AngleOf(-a, a), math.Float32frombits(0xbf490fdb))
		wantNumber(t, "x negative", impl.AngleOf(a, -a), math.Float32frombits(0x4016cbe4))
		wantNumber(t, "both negative", impl.AngleOf(-a, -a), math.Float32frombits(0xc016cbe4))
	}
}

func TestAnglesBitByBit(t *testing.T) {
	d := &dice{seed: 23}
	for range 20000 {
		y, x := d.any(), d.any()
		wantNumber(t, "AngleOf", impl.AngleOf(y, x), angleOf(y, x))
		y, x = d.unit(), d.unit()
		wantNumber(t, "AngleOf", impl.AngleOf(y, x), angleOf(y, x))
		wantNear(t, "AngleOf", impl.AngleOf(y, x), math.Atan2(float64(y), float64(x)), 1.3e-7)
	}
	for _, y := range specials() {
		for _, x := range specials() {
			wantNumber(t, "AngleOf", impl.AngleOf(y, x), angleOf(y, x))
		}
	}
}

// TestWrapOfHalfATurn shows that Pi is a little more than half of a turn, and the number below it a little less.
func TestWrapOfHalfATurn(t *testing.T) {
	var pi float32 = impl.Pi
	below, above := math.Nextafter32(pi, 0), math.Nextafter32(pi, 4)
	wantNumber(t, "below half a turn", impl.WrapAngle(below), below)
	wantNumber(t, "below half a turn, back", impl.WrapAngle(-below), -below)
	wantNumber(t, "Pi", impl.WrapAngle(pi), -below)
	wantNumber(t, "-Pi", impl.WrapAngle(-pi), below)
	wantNumber(t, "above", impl.WrapAngle(above), float32(float64(above)-wideTurn))
	wantNumber(t, "a turn", impl.WrapAngle(2*pi), float32(float64(2*pi)-wideTurn))
	wantNumber(t, "0", impl.WrapAngle(0), 0)
	wantNumber(t, "-0", impl.WrapAngle(minusZero), 0)
	wantNumber(t, "the tiniest", impl.WrapAngle(tiniest), tiniest)
	wantNumber(t, "-tiniest", impl.WrapAngle(-tiniest), -tiniest)
	wantNumber(t, "1", impl.WrapAngle(1), 1)
	wantNumber(t, "-1", impl.WrapAngle(-1), -1)
}

// TestWrapOfTies looks for angles that are so great that they are just a half more than a number of turns.
func TestWrapOfTies(t *testing.T) {
	ties, clamped := 0, 0
	for i := range 400 {
		angle := math.Float32frombits(math.Float32bits(8.0e15) + uint32(i))
		got := impl.WrapAngle(angle)
		wantNumber(t, "WrapAngle", got, wrapOf(angle))
		wantNumber(t, "WrapAngle of the opposite", impl.WrapAngle(-angle), wrapOf(-angle))
		turns := float64(angle) / wideTurn
		if turns-math.Floor(turns) != 0.5 {
			continue
		}
		ties++
		if even := math.Mod(math.Floor(turns), 2) == 0; even != (got > 0) {
			t.Errorf("WrapAngle %g: got %g, which is not from the even number", angle, got)
		}
		if got == impl.Pi || got == -impl.Pi {
			clamped++
		}
	}
	if ties < 50 || clamped < 10 {
		t.Errorf("only %d ties, and %d clamped", ties, clamped)
	}
}

func TestWrapBitByBit(t *testing.T) {
	d := &dice{seed: 24}
	for range 20000 {
		a := d.anAngle()
		got := impl.WrapAngle(a)
		wantNumber(t, "WrapAngle", got, wrapOf(a))
		if isFinite(a) && !(got >= -impl.Pi && got <= impl.Pi) {
			t.Errorf("WrapAngle %g: got %g", a, got)
		}
		if a > -1000 && a < 1000 {
			turns := (float64(a) - float64(got)) / wideTurn
			wantNear(t, "whole turns", float32(turns-math.Round(turns)), 0, 1e-6)
		}
	}
	for i := range 200 { // where the clamp takes effect
		a := float32(math.Ldexp(1.7, 127-i/2))
		if i%2 != 0 {
			a = -a
		}
		wantNumber(t, "WrapAngle", impl.WrapAngle(a), wrapOf(a))
	}
}
