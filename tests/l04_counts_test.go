package tests

import (
	"fmt"
	"math"
	"slices"
	"testing"

	"loop.example/g01204/impl"
)

func TestExampleOfChapter4(t *testing.T) {
	wantCount(t, 2.5, 2)
	wantCount(t, 40000, 32767)
	s := impl.Sensor{Scale: impl.Vec{0.5, 0.5, 0.5}, Every: 10}
	c, code := impl.CountsOf(s, impl.Vec{1, -1, 0.2})
	wantCounts(t, "CountsOf", c, code, impl.Counts{2, -2, 0}, impl.OK)
	wantTimes(t, s, 5, 20, []int64{10, 20})
	curve := impl.Curve{At: []float32{0, 2}, By: []float32{0, 4}}
	a, code := impl.CorrectBy(curve, 0.5)
	wantNumberCode(t, "CorrectBy", a, code, 1, impl.OK)
	a, code = impl.CorrectBy(curve, 9)
	wantNumberCode(t, "CorrectBy", a, code, 4, impl.OK)
	m, rest, code := impl.FitCurveLine(curve)
	wantNumberCode(t, "FitCurveLine", m, code, 2, impl.OK)
	wantNumber(t, "FitCurveLine", rest, 0)
	feed := []impl.Reading{{}, {Time: 10, Values: impl.Counts{10, 10, 10}}}
	v, code := impl.ValueAt(plainSensor(), feed, 5)
	wantVecCode(t, "ValueAt", v, code, impl.Vec{5, 5, 5}, impl.OK)
	wantBool(t, "the limits", impl.MaxReadings == 256 && impl.MaxPoints == 32 && impl.MaxTime == 1000000000, true)
}

func wantCount(t *testing.T, a float32, want int16) {
	t.Helper()
	if got := impl.ToCount(a); got != want {
		t.Errorf("ToCount %g: got %d, want %d", a, got, want)
	}
}

func TestNearestIntegers(t *testing.T) {
	for k := -32768; k <= 32767; k++ {
		a := float32(k)
		wantCount(t, a, int16(k))
		wantCount(t, math.Nextafter32(a, infinite), int16(k))
		wantCount(t, math.Nextafter32(a, -infinite), int16(k))
		half := a + 0.5
		even := int16(k + k&1)
		if k == 32767 {
			even = 32767
		}
		wantCount(t, half, even)
		wantCount(t, math.Nextafter32(half, -infinite), int16(k))
		if k < 32767 {
			wantCount(t, math.Nextafter32(half, infinite), int16(k+1))
		}
	}
	for _, a := range []float32{32767, 32767.25, 32767.5, 32768, 32769, 65536, 1 << 31, 1 << 32, 1e18, 1 << 63, 1 << 64, 1e30, greatest, infinite} {
		wantCount(t, a, 32767)
		wantCount(t, -a-1, -32768)
	}
	for _, a := range []float32{-32768.5, -32769, -65536} {
		wantCount(t, a, -32768)
	}
	for _, a := range []float32{0, minusZero, tiniest, -tiniest, nan, otherNaN, 0.5, -0.5, 0.49999997, -0.49999997, 1e-30} {
		wantCount(t, a, 0)
	}
	d := &dice{seed: 100}
	for range 100000 {
		a := d.any() * float32(d.below(40000))
		wantCount(t, a, countOf(a))
	}
}

func TestSensorsThatAreValid(t *testing.T) {
	d := &dice{seed: 101}
	for range 1000 {
		wantBool(t, "ValidSensor", impl.ValidSensor(d.aSensor()), true)
	}
	s := impl.Sensor{Scale: impl.Vec{tiniest, -tiniest, greatest}, Offset: impl.Vec{greatest, -greatest, minusZero}, Every: 1000000, Delay: 1000000}
	wantBool(t, "ValidSensor, ends", impl.ValidSensor(s), true)
	s.Every, s.Delay = 1, 0
	wantBool(t, "ValidSensor, ends", impl.ValidSensor(s), true)
	wantBool(t, "ValidSensor of nothing", impl.ValidSensor(impl.Sensor{}), false)
	for i, s := range badSensors() {
		wantBool(t, fmt.Sprint("bad sensor ", i), impl.ValidSensor(s), false)
	}
}

func TestCountsOfVectors(t *testing.T) {
	s := impl.Sensor{Scale: impl.Vec{0.5, -2, 3}, Offset: impl.Vec{1, 10, -6}, Every: 1}
	for _, x := range []struct {
		v    impl.Vec
		want impl.Counts
	}{
		{impl.Vec{1, 10, -6}, impl.Counts{}},
		{impl.Vec{2, 8, 0}, impl.Counts{2, 1, 2}},
		{impl.Vec{1.25, 9, -1.5}, impl.Counts{0, 0, 2}},   // 0.5, 0.5 and 1.5
		{impl.Vec{1.75, 7, -13.5}, impl.Counts{2, 2, -2}}, // 1.5, 1.5 and -2.5
		{impl.Vec{nan, otherNaN, infinite}, impl.Counts{0, 0, 32767}},
		{impl.Vec{infinite, infinite, -infinite}, impl.Counts{32767, -32768, -32768}},
		{impl.Vec{greatest, -greatest, -greatest}, impl.Counts{32767, 32767, -32768}},
		{impl.Vec{16384.5, -65524, 98295}, impl.Counts{32767, 32767, 32767}},
		{impl.Vec{16384.25, -65523, 98293}, impl.Counts{32766, 32766, 32766}},
		{impl.Vec{-16383, 65546, -98310}, impl.Counts{-32768, -32768, -32768}},
		{impl.Vec{-20000, 80000, -1e6}, impl.Counts{-32768, -32768, -32768}},
	} {
		got, code := impl.CountsOf(s, x.v)
		wantCounts(t, fmt.Sprint("CountsOf ", x.v), got, code, x.want, impl.OK)
	}
	// The difference, 17661839, is rounded to 17661840, whose quotient is just 1.5.
	s = impl.Sensor{Scale: impl.Vec{11774560, 11774560, 1 << 25}, Offset: impl.Vec{-235, 235, 0}, Every: 1}
	got, code := impl.CountsOf(s, impl.Vec{17661604, -17661604, 1<<24 + 2})
	wantCounts(t, "CountsOf, the difference rounded", got, code, impl.Counts{2, -2, 1}, impl.OK)
	// The difference of great numbers is 0, or infinite.
	s = impl.Sensor{Scale: impl.Vec{tiniest, 1, 1}, Offset: impl.Vec{greatest, -greatest, 0}, Every: 1}
	got, code = impl.CountsOf(s, impl.Vec{greatest, greatest, infinite})
	wantCounts(t, "CountsOf, great numbers", got, code, impl.Counts{0, 32767, 32767}, impl.OK)
}

// TestNearHalves has quotients that are a half just because they are rounded.
func TestNearHalves(t *testing.T) {
	d := &dice{seed: 102}
	rounded := 0
	for range 20000 {
		s := plainSensor()
		s.Scale = impl.Vec{1.5 + d.unit()/2, d.unit() + 2, -3 + d.unit()}
		var v impl.Vec
		for i := range v {
			half := d.whole(3000) + 0.5
			v[i] = product(half, s.Scale[i])
			if wide := float64(v[i]) / float64(s.Scale[i]); wide != float64(half) && quotient(v[i], s.Scale[i]) == half {
				rounded++
			}
		}
		got, code := impl.CountsOf(s, v)
		wantCounts(t, fmt.Sprint("CountsOf ", v), got, code, countsOf(s, v), impl.OK)
	}
	wantBool(t, "quotients that are rounded to a half", rounded > 10000, true)
}

func TestVectorsOfCounts(t *testing.T) {
	s := impl.Sensor{Scale: impl.Vec{0.5, -2, 3}, Offset: impl.Vec{1, 10, -6}, Every: 1}
	v, code := impl.VecOfCounts(s, impl.Counts{2, 1, -2})
	wantVecCode(t, "VecOfCounts", v, code, impl.Vec{2, 8, -12}, impl.OK)
	v, code = impl.VecOfCounts(s, impl.Counts{-32768, 32767, 0})
	wantVecCode(t, "VecOfCounts, ends", v, code, impl.Vec{-16383, -65524, -6}, impl.OK)
	// 4097 * 4097 / 4096 has 25 bits, of which the last one is lost before the sum.
	s = impl.Sensor{Scale: impl.Vec{1 + 1.0/4096, 1 + 1.0/4096, 1 + 1.0/4096}, Offset: impl.Vec{-4098, 0, 1 << 24}, Every: 1}
	v, code = impl.VecOfCounts(s, impl.Counts{4097, -4097, 1})
	wantVecCode(t, "VecOfCounts, the product rounded", v, code, impl.Vec{0, -4098, 1<<24 + 2}, impl.OK)
	s = impl.Sensor{Scale: impl.Vec{-1, 1, greatest}, Offset: impl.Vec{minusZero, minusZero, -greatest}, Every: 1}
	v, code = impl.VecOfCounts(s, impl.Counts{0, 0, 2})
	wantVecCode(t, "VecOfCounts, -0 and what is not finite", v, code, impl.Vec{minusZero, 0, infinite}, impl.OK)
}

func TestVectorsOfCountsAgain(t *testing.T) {
	d := &dice{seed: 103}
	for range 20000 {
		s, c, v := d.aSensor(), d.counts(), vecFrom(d.numbers())
		if d.below(5) == 0 {
			v[d.below(3)] = d.any()
		}
		got, code := impl.VecOfCounts(s, c)
		wantVecCode(t, fmt.Sprint("VecOfCounts ", s, c), got, code, vecOfCounts(s, c), impl.OK)
		counts, code := impl.CountsOf(s, v)
		wantCounts(t, fmt.Sprint("CountsOf ", s, v), counts, code, countsOf(s, v), impl.OK)
	}
}

// TestCountsAreFoundAgain takes scales that are not small beside the offset.
func TestCountsAreFoundAgain(t *testing.T) {
	d := &dice{seed: 104}
	for range 20000 {
		s := d.aSensor()
		by := float32(math.Ldexp(1, d.below(200)-100))
		for i := range 3 {
			s.Scale[i] = by * (1.5 + d.unit()/2) * (1 - 2*float32(d.below(2)))
			s.Offset[i] = by * d.unit() * 100
		}
		c := d.counts()
		v, code := impl.VecOfCounts(s, c)
		wantCode(t, "VecOfCounts", code, impl.OK)
		got, code := impl.CountsOf(s, v)
		wantCounts(t, fmt.Sprint("counts that are found again ", s), got, code, c, impl.OK)
	}
}

func TestCountsOfBadSensors(t *testing.T) {
	each(badSensors(), func(what string, s impl.Sensor) {
		c, code := impl.CountsOf(s, impl.Vec{1, 2, 3})
		wantCounts(t, "CountsOf, "+what, c, code, impl.Counts{}, impl.ErrInvalid)
		v, code := impl.VecOfCounts(s, impl.Counts{1, 2, 3})
		wantVecCode(t, "VecOfCounts, "+what, v, code, impl.Vec{}, impl.ErrInvalid)
		for _, time := range []int64{10, -1, 5, 1000000001} {
			times, code := impl.TimesBetween(s, time, time)
			wantBool(t, "TimesBetween, "+what, len(times) == 0 && code == impl.ErrInvalid, true)
			r, code := impl.MeasureAt(s, time, impl.Vec{1, 2, 3})
			wantFeed(t, "MeasureAt, "+what, []impl.Reading{r}, code, []impl.Reading{{}}, impl.ErrInvalid)
		}
	})
}

func TestCountsAtAnEnd(t *testing.T) {
	for i := range 3 {
		for k := -32768; k <= 32767; k++ {
			c := impl.Counts{1, -2, 3}
			c[i] = int16(k)
			if got := impl.IsSaturated(c); got != (k == 32767 || k == -32768) {
				t.Errorf("IsSaturated %v: got %t", c, got)
			}
		}
	}
	wantBool(t, "IsSaturated of 0", impl.IsSaturated(impl.Counts{}), false)
	wantBool(t, "IsSaturated, all beside an end", impl.IsSaturated(impl.Counts{32766, -32767, 32766}), false)
	wantBool(t, "IsSaturated, two ends", impl.IsSaturated(impl.Counts{32767, 0, -32768}), true)
}

func wantTimes(t *testing.T, s impl.Sensor, from, to int64, want []int64) {
	t.Helper()
	got, code := impl.TimesBetween(s, from, to)
	if !slices.Equal(got, want) {
		t.Errorf("TimesBetween %d and %d every %d: got %v, want %v", from, to, s.Every, got, want)
	}
	wantCode(t, fmt.Sprintf("TimesBetween %d and %d every %d", from, to, s.Every), code, impl.OK)
}

func wantNoTimes(t *testing.T, s impl.Sensor, from, to, want int64) {
	t.Helper()
	got, code := impl.TimesBetween(s, from, to)
	if len(got) != 0 || code != want {
		t.Errorf("TimesBetween %d and %d every %d: got %v, code %d, want code %d", from, to, s.Every, got, code, want)
	}
}

func TestTimesOfSensors(t *testing.T) {
	s := plainSensor()
	wantTimes(t, s, 0, 0, []int64{0})
	wantTimes(t, s, 0, 9, []int64{0})
	wantTimes(t, s, 0, 10, []int64{0, 10})
	wantTimes(t, s, 1, 9, nil)
	wantTimes(t, s, 1, 10, []int64{10})
	wantTimes(t, s, 10, 10, []int64{10})
	wantTimes(t, s, 11, 40, []int64{20, 30, 40})
	wantTimes(t, s, 20, 10, nil)
	wantTimes(t, s, 1000000000, 0, nil)
	wantTimes(t, s, 999999985, 1000000000, []int64{999999990, 1000000000})
	s.Every = 7
	wantTimes(t, s, 999999985, 1000000000, []int64{999999987, 999999994})
	s.Every = 1000000
	wantTimes(t, s, 1, 2999999, []int64{1000000, 2000000})
	s.Every = 1
	wantTimes(t, s, 1000000000, 1000000000, []int64{1000000000})
}

func TestTimesThatAreTooMany(t *testing.T) {
	s := plainSensor()
	got, code := impl.TimesBetween(s, 10, 2560)
	wantBool(t, "256 times", len(got) == 256 && got[0] == 10 && got[255] == 2560 && code == impl.OK, true)
	got, code = impl.TimesBetween(s, 1, 2569)
	wantBool(t, "256 times", len(got) == 256 && got[0] == 10 && got[255] == 2560 && code == impl.OK, true)
	wantNoTimes(t, s, 10, 2570, impl.ErrLimit)
	wantNoTimes(t, s, 0, 2560, impl.ErrLimit)
	wantNoTimes(t, s, 0, 1000000000, impl.ErrLimit)
	s.Every = 1
	wantNoTimes(t, s, 0, 1000000000, impl.ErrLimit)
	wantNoTimes(t, s, 0, 256, impl.ErrLimit)
	for _, none := range []int64{-1, -10, 1000000001, math.MinInt64, math.MaxInt64} {
		wantNoTimes(t, s, none, 5, impl.ErrRange)
		wantNoTimes(t, s, 0, none, impl.ErrRange)
		wantNoTimes(t, s, 1000000000, none, impl.ErrRange)
		wantNoTimes(t, s, none, none, impl.ErrRange)
		wantNoTimes(t, s, none, 1000000000, impl.ErrRange)
	}
}

// TestMeasuredTimesAreAFeed measures at each time.
func TestMeasuredTimesAreAFeed(t *testing.T) {
	d := &dice{seed: 105}
	for range 2000 {
		s := d.aSensor()
		from := int64(d.below(2000))
		to := from + int64(d.below(200))*s.Every
		times, code := impl.TimesBetween(s, from, to)
		wantCode(t, "TimesBetween", code, impl.OK)
		var want []int64
		for time := from; time <= to && s.Every < 1001; time++ {
			if time%s.Every == 0 {
				want = append(want, time)
			}
		}
		wantBool(t, fmt.Sprint("the times ", s, from, to), s.Every == 1000000 || slices.Equal(times, want), true)
		var feed []impl.Reading
		for _, time := range times {
			v := vecFrom(d.numbers())
			r, code := impl.MeasureAt(s, time, v)
			wantFeed(t, "MeasureAt", []impl.Reading{r}, code, []impl.Reading{{Time: time, Values: countsOf(s, v)}}, impl.OK)
			feed = append(feed, r)
		}
		wantBool(t, "measured times are a feed", impl.ValidFeed(feed), true)
	}
}

func TestMeasuring(t *testing.T) {
	s := impl.Sensor{Scale: impl.Vec{0.5, 1, 1}, Offset: impl.Vec{1, 1, 1}, Every: 10, Delay: 4}
	for _, time := range []int64{0, 10, 1000000000} {
		r, code := impl.MeasureAt(s, time, impl.Vec{2, 1e9, nan})
		wantFeed(t, "MeasureAt", []impl.Reading{r}, code, []impl.Reading{{Time: time, Values: impl.Counts{2, 32767, 0}}}, impl.OK)
	}
	none := func(time, want int64) {
		t.Helper()
		r, code := impl.MeasureAt(s, time, impl.Vec{2, 3, 4})
		wantFeed(t, fmt.Sprint("MeasureAt ", time), []impl.Reading{r}, code, []impl.Reading{{}}, want)
	}
	for _, time := range []int64{1, 5, 9, 11, 999999999} {
		none(time, impl.ErrState)
	}
	for _, time := range []int64{-1, -10, 1000000001, 1000000010, math.MinInt64, math.MaxInt64} {
		none(time, impl.ErrRange)
	}
}

func wantShaken(t *testing.T, c impl.Counts, seed uint32, most int16, want impl.Counts, last uint32) {
	t.Helper()
	got, next, code := impl.ShakeCounts(c, seed, most)
	wantCounts(t, fmt.Sprintf("ShakeCounts %v, %d, %d", c, seed, most), got, code, want, impl.OK)
	if next != last {
		t.Errorf("ShakeCounts %v, %d, %d: got the seed %08x, want %08x", c, seed, most, next, last)
	}
}

func TestShakenCounts(t *testing.T) {
	// The seeds behind 0 are 3c6ef35f, 47502932 and d1ccf6e9; divided by 65536, they are 15470, 18256 and 53708.
	wantShaken(t, impl.Counts{7, 8, 9}, 0, 0, impl.Counts{7, 8, 9}, 0xd1ccf6e9)
	wantShaken(t, impl.Counts{}, 0, 1, impl.Counts{1, 0, 1}, 0xd1ccf6e9)
	wantShaken(t, impl.Counts{10, 20, 30}, 0, 2, impl.Counts{8, 19, 31}, 0xd1ccf6e9)
	wantShaken(t, impl.Counts{}, 0, 32767, impl.Counts{-17297, -14511, 20941}, 0xd1ccf6e9)
	wantShaken(t, impl.Counts{-32768, -20000, 20000}, 0, 32767, impl.Counts{-32768, -32768, 32767}, 0xd1ccf6e9)
	wantShaken(t, impl.Counts{32767, 32767, 32767}, 0, 1, impl.Counts{32767, 32767, 32767}, 0xd1ccf6e9)
	// Behind that they are 43769, 25170 and 40750: with the greatest noise, 11002, -7597 and 7983 are added.
	wantShaken(t, impl.Counts{32767, -32768, 32767}, 0xd1ccf6e9, 3, impl.Counts{32767, -32766, 32767}, 0x9f2ec686)
	wantShaken(t, impl.Counts{21764, -25170, -32768}, 0xd1ccf6e9, 32767, impl.Counts{32766, -32767, -24785}, 0x9f2ec686)
	wantShaken(t, impl.Counts{21765, -25171, 24784}, 0xd1ccf6e9, 32767, impl.Counts{32767, -32768, 32767}, 0x9f2ec686)
	wantShaken(t, impl.Counts{21766, -25172, 24785}, 0xd1ccf6e9, 32767, impl.Counts{32767, -32768, 32767}, 0x9f2ec686)
	for _, most := range []int16{-1, -2, -32768} {
		c, seed, code := impl.ShakeCounts(impl.Counts{1, 2, 3}, 5, most)
		wantCounts(t, "ShakeCounts", c, code, impl.Counts{}, impl.ErrRange)
		wantBool(t, "no seed", seed == 0, true)
	}
}

// seedBefore returns the seed that is followed by another one.
func seedBefore(next uint32) uint32 {
	inverse := uint32(1)
	for range 5 { // each step doubles the number of bits that are right
		inverse *= 2 - 1664525*inverse
	}
	return (next - 1013904223) * inverse
}

func TestShakenCountsAgain(t *testing.T) {
	d := &dice{seed: 106}
	for range 20000 {
		c, seed, most := d.counts(), uint32(d.next()<<8^d.next()), d.aCount()
		if most < 0 {
			most = ^most
		}
		want, last := shaken(c, seed, most)
		wantShaken(t, c, seed, most, want, last)
		for i, k := range want {
			wantBool(t, "no count moves by more than most", math.Abs(float64(k)-float64(c[i])) <= float64(most), true)
		}
	}
	// 65535 modulo 65535 is 0, and 65534 the greatest rest.
	for _, first := range []uint32{0xffff0000, 0xffffffff, 0xfffe0000, 0xfffeffff, 0, 0xffff} {
		seed := seedBefore(first)
		want, last := shaken(impl.Counts{}, seed, 32767)
		wantShaken(t, impl.Counts{}, seed, 32767, want, last)
		wantBool(t, "an end", want[0] == 32767 || want[0] == -32767, true)
	}
}
