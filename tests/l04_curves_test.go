package tests

import (
	"fmt"
	"math"
	"slices"
	"testing"

	"loop.example/g01204/impl"
)

func TestCurvesThatAreValid(t *testing.T) {
	for count := 2; count <= 32; count++ {
		wantBool(t, fmt.Sprint("points ", count), impl.ValidCurve(straight(count, 1, 0)), true)
	}
	for _, c := range []impl.Curve{
		{At: []float32{-greatest, greatest}, By: []float32{greatest, -greatest}},
		{At: []float32{-tiniest, minusZero, tiniest}, By: []float32{0, 0, minusZero}},
		{At: []float32{1, math.Nextafter32(1, 2)}, By: []float32{5, 5}},
	} {
		wantBool(t, fmt.Sprint("ValidCurve ", c), impl.ValidCurve(c), true)
	}
	d := &dice{seed: 110}
	for range 1000 {
		c := d.aCurve()
		wantBool(t, fmt.Sprint("ValidCurve ", c), impl.ValidCurve(c), true)
	}
	for i, c := range badCurves() {
		wantBool(t, fmt.Sprint("bad curve ", i), impl.ValidCurve(c), false)
	}
}

func wantCorrected(t *testing.T, c impl.Curve, a, want float32) {
	t.Helper()
	got, code := impl.CorrectBy(c, a)
	wantNumberCode(t, fmt.Sprintf("CorrectBy %v of %g", c, a), got, code, want, impl.OK)
}

func TestCorrectedNumbers(t *testing.T) {
	c := impl.Curve{At: []float32{-2, 0, 1, 5}, By: []float32{10, 4, minusZero, 8}}
	for _, x := range []struct{ a, want float32 }{
		{-infinite, 10}, {-greatest, 10}, {-3, 10}, {-2, 10}, {-1, 7}, {-0.5, 5.5}, {minusZero, 4}, {0, 4},
		{0.25, 3}, {0.75, 1}, {1, 0}, {2, 2}, {4, 6}, {5, 8}, {6, 8}, {greatest, 8}, {infinite, 8},
	} {
		wantCorrected(t, c, x.a, x.want)
	}
	// 0 and -0 are equal, so that each of both is at the point of the other one.
	c = impl.Curve{At: []float32{minusZero, 1}, By: []float32{minusZero, 5}}
	wantCorrected(t, c, 0, minusZero)
	c = impl.Curve{At: []float32{-1, 0}, By: []float32{5, minusZero}}
	wantCorrected(t, c, minusZero, minusZero)
	c = impl.Curve{At: []float32{-1, minusZero, 1}, By: []float32{1, 3, 9}}
	wantCorrected(t, c, 0, 3)
	// A third of the way: the quotient is rounded, then the product, and then the sum.
	c = impl.Curve{At: []float32{0, 3}, By: []float32{1, 1 + 3.0/(1<<23)}}
	wantCorrected(t, c, 1, 1+1.0/(1<<23))
	c = impl.Curve{At: []float32{0, 1 << 12}, By: []float32{-1 - 1.0/(1<<23), 1 << 12}}
	wantCorrected(t, c, 1<<12-1, corrected(c, 1<<12-1))
}

// TestCurvesWhoseDifferencesAreNotFinite takes the section at its word.
func TestCurvesWhoseDifferencesAreNotFinite(t *testing.T) {
	c := impl.Curve{At: []float32{-greatest, greatest}, By: []float32{1, 3}}
	wantCorrected(t, c, -1, 1)     // a share of greatest / infinite
	wantCorrected(t, c, 1e38, nan) // of infinite / infinite
	wantCorrected(t, c, -1e38, 1)  // of what is finite still / infinite
	wantCorrected(t, c, greatest, 3)
	c = impl.Curve{At: []float32{0, 1, 2}, By: []float32{-greatest, greatest, 0}}
	wantCorrected(t, c, 0.5, infinite)
	wantCorrected(t, c, 1, greatest)
	c = impl.Curve{At: []float32{0, 1, 2}, By: []float32{0, -greatest, greatest}}
	wantCorrected(t, c, 1, nan) // 0 times infinite
}

func TestCurvesThatCorrectNothing(t *testing.T) {
	c := straight(5, 1, 0)
	for _, a := range []float32{nan, otherNaN} {
		got, code := impl.CorrectBy(c, a)
		wantNumberCode(t, "CorrectBy NaN", got, code, 0, impl.ErrRange)
	}
	each(badCurves(), func(what string, c impl.Curve) {
		for _, a := range []float32{0, 1.5, 1e9, infinite, nan} {
			got, code := impl.CorrectBy(c, a)
			wantNumberCode(t, "CorrectBy, "+what, got, code, 0, impl.ErrInvalid)
		}
	})
}

func TestCorrectedNumbersAgain(t *testing.T) {
	d := &dice{seed: 111}
	for range 5000 {
		c, of := d.aCurve(), d.numbers()
		last := len(c.At) - 1
		for range 8 {
			i := d.below(last)
			list := []float32{of(), c.At[i] + (c.At[i+1]-c.At[i])*float32(math.Abs(float64(d.unit()))), math.Nextafter32(c.At[i], infinite), math.Nextafter32(c.At[i+1], -infinite), d.any()}
			for _, a := range list {
				if a == a {
					wantCorrected(t, c, a, corrected(c, a))
				}
			}
		}
	}
}

func TestCurvesGoThroughTheirPoints(t *testing.T) {
	d := &dice{seed: 112}
	for range 3000 {
		c := d.aCurve()
		last := len(c.At) - 1
		for i, a := range c.At {
			got, code := impl.CorrectBy(c, a)
			wantCode(t, "CorrectBy at a point", code, impl.OK)
			if i == 0 || i == last {
				wantNumber(t, "CorrectBy at an end", got, c.By[i])
			} else if isFinite(c.By[i+1]-c.By[i]) && got != c.By[i] {
				t.Errorf("CorrectBy %v of %g: got %g, want %g", c, a, got, c.By[i])
			}
		}
		wantCorrected(t, c, math.Nextafter32(c.At[0], -infinite), c.By[0])
		wantCorrected(t, c, math.Nextafter32(c.At[last], infinite), c.By[last])
	}
}

func wantLine(t *testing.T, c impl.Curve, m, rest float32) {
	t.Helper()
	gotM, gotRest, code := impl.FitCurveLine(c)
	wantNumberCode(t, fmt.Sprint("FitCurveLine ", c), gotM, code, m, impl.OK)
	wantNumber(t, fmt.Sprint("FitCurveLine, at 0, ", c), gotRest, rest)
}

func wantNoLine(t *testing.T, what string, c impl.Curve, want int64) {
	t.Helper()
	m, rest, code := impl.FitCurveLine(c)
	wantNumberCode(t, "FitCurveLine, "+what, m, code, 0, want)
	wantNumber(t, "FitCurveLine, at 0, "+what, rest, 0)
}

func TestLinesOfCurves(t *testing.T) {
	for count := 2; count <= 32; count++ {
		wantLine(t, straight(count, 3, -7), 3, -7)
		wantLine(t, straight(count, 0, 5), 0, 5)
		wantLine(t, straight(count, -0.5, 0), -0.5, 0)
	}
	wantLine(t, impl.Curve{At: []float32{0, 1, 2}, By: []float32{0, 3, 0}}, 0, 1)
	wantLine(t, impl.Curve{At: []float32{-1, 0, 1, 2}, By: []float32{0, 0, 0, 10}}, 3, 1)
	// Sums begin with the first number: from 0 on, -0 would be lost.
	wantLine(t, impl.Curve{At: []float32{1, 2}, By: []float32{minusZero, minusZero}}, 0, minusZero)
	// The squares are wide: narrow ones would not be finite, or be 0.
	wantLine(t, impl.Curve{At: []float32{-1e30, 1e30}, By: []float32{-2e30, 2e30}}, 2, 0)
	wantLine(t, impl.Curve{At: []float32{-1e-30, 1e-30}, By: []float32{-2e-30, 2e-30}}, 2, 0)
	// Numbers that follow each other: narrow sums would have a d of 0.
	a := float32(1 << 23)
	wantLine(t, impl.Curve{At: []float32{a, a + 1}, By: []float32{a, a + 1}}, 1, 0)
	// The line at 0 is made of the wide m: 1e6 / 3, narrowed, times 3 would not be taken away wholly.
	wantLine(t, impl.Curve{At: []float32{3 - 1.5, 3 + 1.5}, By: []float32{0, 1e6}}, 1e6/3.0, -5e5)
}

func TestCurvesWithoutALine(t *testing.T) {
	wantNoLine(t, "too steep", impl.Curve{At: []float32{0, tiniest}, By: []float32{0, 1e10}}, impl.ErrState)
	wantNoLine(t, "too steep", impl.Curve{At: []float32{-tiniest, tiniest}, By: []float32{greatest, -greatest}}, impl.ErrState)
	wantNoLine(t, "too far off at 0", impl.Curve{At: []float32{1e10, 1e10 + 1024}, By: []float32{0, 3e38}}, impl.ErrState)
	wantNoLine(t, "too far off at 0", impl.Curve{At: []float32{2, 3}, By: []float32{-2e38, 2e38}}, impl.ErrState)
	wantNoLine(t, "just too steep", impl.Curve{At: []float32{-0.5, 0.25}, By: []float32{-greatest / 2, greatest / 2}}, impl.ErrState)
	wantLine(t, impl.Curve{At: []float32{-0.5, 0.5}, By: []float32{-greatest / 2, greatest / 2}}, greatest, 0)
	each(badCurves(), func(what string, c impl.Curve) { wantNoLine(t, what, c, impl.ErrInvalid) })
}

// narrowCurve returns a curve whose At are so near to each other that d keeps
// few bits of what it is the difference of.
func (d *dice) narrowCurve() impl.Curve {
	var c impl.Curve
	at, of := math.Float32bits(1+3*d.unit()), d.numbers()
	for range 2 + d.below(31) {
		at += 1 + uint32(d.below(3))
		c.At, c.By = append(c.At, math.Float32frombits(at)), append(c.By, of())
	}
	if c.At[0] < 0 {
		slices.Reverse(c.At)
	}
	return c
}

func TestLinesOfCurvesAgain(t *testing.T) {
	d := &dice{seed: 113}
	found := map[int64]int{}
	for range 20000 {
		c := d.aCurve()
		if d.below(3) == 0 {
			c = d.narrowCurve()
		}
		m, rest, wanted := lineOf(c)
		gotM, gotRest, code := impl.FitCurveLine(c)
		wantNumberCode(t, fmt.Sprint("FitCurveLine ", c), gotM, code, m, wanted)
		wantNumber(t, fmt.Sprint("FitCurveLine, at 0, ", c), gotRest, rest)
		found[code]++
	}
	wantBool(t, fmt.Sprint("curves with and without a line ", found), found[impl.OK] > 9000 && found[impl.ErrState] > 100, true)
}

// TestLinesAreNearest turns and moves each line a little: the squares get more.
func TestLinesAreNearest(t *testing.T) {
	d := &dice{seed: 114}
	for range 500 {
		var c impl.Curve
		for range 2 + d.below(31) {
			c.At, c.By = append(c.At, d.unit()*10), append(c.By, d.unit()*10)
		}
		slices.Sort(c.At)
		m, rest, code := impl.FitCurveLine(c)
		wantCode(t, "FitCurveLine", code, impl.OK)
		squares := func(m, rest float64) float64 {
			all := 0.0
			for i, a := range c.At {
				off := m*float64(a) + rest - float64(c.By[i])
				all += off * off
			}
			return all
		}
		least := squares(float64(m), float64(rest))
		for _, by := range []float64{-0.01, 0.01} {
			wantBool(t, "a line that is moved is less near", squares(float64(m), float64(rest)+by) > least, true)
			wantBool(t, "a line that is turned is less near", squares(float64(m)+by, float64(rest)) > least, true)
		}
	}
}
