package tests

import (
	"fmt"
	"math"
	"slices"
	"testing"

	"loop.example/g01204/impl"
)

// Chapter 4 reckoned once more: counts by search among the integers, feeds by
// maps of times, with the operations that are rounded in numbers_test.go.

// countOf finds the nearest integer among the three around a number.
func countOf(a float32) int16 {
	switch {
	case a != a:
		return 0
	case a >= 32767:
		return 32767
	case a <= -32768:
		return -32768
	}
	best := int(a) - 1
	for k := int(a); k <= int(a)+1; k++ {
		far, less := math.Abs(float64(a)-float64(k)), math.Abs(float64(a)-float64(best))
		if far < less || far == less && k%2 == 0 {
			best = k
		}
	}
	return int16(best)
}

func validSensor(s impl.Sensor) bool {
	for i := range 3 {
		if !finiteNumbers(s.Scale[i], s.Offset[i]) || s.Scale[i] == 0 {
			return false
		}
	}
	return 0 < s.Every && s.Every < 1000001 && -1 < s.Delay && s.Delay < 1000001
}

func isTime(time int64) bool { return 0 <= time && time <= 1000000000 }

func countsOf(s impl.Sensor, v impl.Vec) impl.Counts {
	var c impl.Counts
	for i := range 3 {
		c[i] = countOf(quotient(difference(v[i], s.Offset[i]), s.Scale[i]))
	}
	return c
}

func vecOfCounts(s impl.Sensor, c impl.Counts) impl.Vec {
	var v impl.Vec
	for i := range 3 {
		v[i] = sum(product(float32(c[i]), s.Scale[i]), s.Offset[i])
	}
	return v
}

// shaken takes the modulus by subtracting, and holds by comparing.
func shaken(c impl.Counts, seed uint32, most int16) (impl.Counts, uint32) {
	for i := range 3 {
		seed = uint32((uint64(seed)*1664525 + 1013904223) % (1 << 32))
		d := int(seed >> 16)
		for d >= 2*int(most)+1 {
			d -= 2*int(most) + 1
		}
		k := int(c[i]) + d - int(most)
		if k > 32767 {
			k = 32767
		}
		if k < -32768 {
			k = -32768
		}
		c[i] = int16(k)
	}
	return c, seed
}

func validCurve(c impl.Curve) bool {
	if len(c.At) != len(c.By) || len(c.At) < 2 || len(c.At) > 32 {
		return false
	}
	for i := range c.At {
		if i > 0 && !(c.At[i-1] < c.At[i]) {
			return false
		}
	}
	return finiteNumbers(c.At...) && finiteNumbers(c.By...)
}

// goneFrom returns the number that has gone a share of the way from a to b.
func goneFrom(a, b, share float32) float32 {
	return sum(a, product(difference(b, a), share))
}

func corrected(c impl.Curve, a float32) float32 {
	last := len(c.At) - 1
	switch {
	case a <= c.At[0]:
		return c.By[0]
	case a >= c.At[last]:
		return c.By[last]
	}
	i := 0
	for k, at := range c.At {
		if at <= a {
			i = k
		}
	}
	share := quotient(difference(a, c.At[i]), difference(c.At[i+1], c.At[i]))
	return goneFrom(c.By[i], c.By[i+1], share)
}

// wideAlong is along for wide numbers.
func wideAlong(count int, of func(k int) float64) float64 {
	s := of(0)
	for k := 1; k < count; k++ {
		s = wideSum(s, of(k))
	}
	return s
}

func lineOf(c impl.Curve) (float32, float32, int64) {
	count := len(c.At)
	at := func(k int) float64 { return float64(c.At[k]) }
	by := func(k int) float64 { return float64(c.By[k]) }
	n, sx, sy := float64(count), wideAlong(count, at), wideAlong(count, by)
	sxx := wideAlong(count, func(k int) float64 { return wideProduct(at(k), at(k)) })
	sxy := wideAlong(count, func(k int) float64 { return wideProduct(at(k), by(k)) })
	d := wideDifference(wideProduct(n, sxx), wideProduct(sx, sx))
	if d == 0 {
		return 0, 0, impl.ErrState
	}
	m := wideQuotient(wideDifference(wideProduct(n, sxy), wideProduct(sx, sy)), d)
	rest := wideQuotient(wideDifference(sy, wideProduct(m, sx)), n)
	if !finiteNumbers(float32(m), float32(rest)) {
		return 0, 0, impl.ErrState
	}
	return float32(m), float32(rest), impl.OK
}

func validFeed(list []impl.Reading) bool {
	for i, r := range list {
		if !isTime(r.Time) || i > 0 && r.Time <= list[i-1].Time {
			return false
		}
	}
	return len(list) <= 256
}

// mergedFeeds puts all readings into a map, those of a at last, and sorts.
func mergedFeeds(a, b []impl.Reading) []impl.Reading {
	all := map[int64]impl.Reading{}
	for _, r := range append(slices.Clone(b), a...) {
		all[r.Time] = r
	}
	var list []impl.Reading
	for _, r := range all {
		list = append(list, r)
	}
	slices.SortFunc(list, func(r, q impl.Reading) int { return int(r.Time - q.Time) })
	return list
}

func valueOf(s impl.Sensor, list []impl.Reading, time int64) (impl.Vec, int64) {
	for i, r := range list {
		if r.Time == time {
			return vecOfCounts(s, r.Values), impl.OK
		}
		if i > 0 && list[i-1].Time < time && time < r.Time {
			a, b := vecOfCounts(s, list[i-1].Values), vecOfCounts(s, r.Values)
			share := quotient(float32(time-list[i-1].Time), float32(r.Time-list[i-1].Time))
			return impl.Vec{goneFrom(a[0], b[0], share), goneFrom(a[1], b[1], share), goneFrom(a[2], b[2], share)}, impl.OK
		}
	}
	return impl.Vec{}, impl.ErrNotFound
}

func meanOf(s impl.Sensor, list []impl.Reading) (impl.Vec, int64) {
	if len(list) == 0 {
		return impl.Vec{}, impl.ErrNotFound
	}
	var v impl.Vec
	for i := range 3 {
		all := along(0, len(list)-1, func(k int) float32 { return vecOfCounts(s, list[k].Values)[i] })
		v[i] = quotient(all, float32(len(list)))
	}
	return v, impl.OK
}

// packetOf takes the bytes by quotients; number may be negative.
func packetOf(list []impl.Reading) []byte {
	data := []byte("RD")
	put := func(number int64, count int) {
		if number < 0 {
			number += 65536
		}
		for range count {
			data = append(data, byte(number%256))
			number /= 256
		}
	}
	put(int64(len(list)), 2)
	for _, r := range list {
		put(r.Time, 4)
		for _, k := range r.Values {
			put(int64(k), 2)
		}
	}
	put(sumOfBytes(data)%65521, 2)
	return data
}

func sumOfBytes(data []byte) int64 {
	all := int64(0)
	for _, b := range data {
		all += int64(b)
	}
	return all
}

// aCount returns a count of any kind, often one at an end or near it.
func (d *dice) aCount() int16 {
	list := []int16{0, 1, -1, 32767, -32768, 32766, -32767}
	if d.below(3) == 0 {
		return list[d.below(len(list))]
	}
	if d.below(2) == 0 {
		return int16(d.whole(9))
	}
	return int16(d.next())
}

func (d *dice) counts() impl.Counts { return impl.Counts{d.aCount(), d.aCount(), d.aCount()} }

// aSensor returns a valid sensor.
func (d *dice) aSensor() impl.Sensor {
	s := impl.Sensor{Scale: vecFrom(d.numbers()), Offset: vecFrom(d.numbers()), Every: 1 + int64(d.below(1000)), Delay: int64(d.below(1000))}
	for i, a := range s.Scale {
		if a == 0 {
			s.Scale[i] = -0.5
		}
	}
	if d.below(9) == 0 {
		s.Every, s.Delay = 1000000, 1000000
	}
	return s
}

// aCurve returns a valid curve with any number of points.
func (d *dice) aCurve() impl.Curve {
	by := d.numbers()
	at := d.numbers()
	var c impl.Curve
	for range 2 + d.below(31) {
		c.At = append(c.At, at())
	}
	slices.Sort(c.At)
	c.At = slices.Compact(c.At)
	if len(c.At) < 2 {
		c.At = []float32{-1, 1}
	}
	for range c.At {
		c.By = append(c.By, by())
	}
	return c
}

// aFeed returns a valid feed; its times have the given greatest distance.
func (d *dice) aFeed(most, step int) []impl.Reading {
	var list []impl.Reading
	time := int64(d.below(step))
	for range d.below(most + 1) {
		list = append(list, impl.Reading{Time: time, Values: d.counts()})
		time += 1 + int64(d.below(step))
	}
	return list
}

// fullFeed returns a feed with as many readings as there may be, every so many ticks.
func fullFeed(from, every int64) []impl.Reading {
	list := make([]impl.Reading, 256)
	for i := range list {
		list[i] = impl.Reading{Time: from + int64(i)*every, Values: impl.Counts{int16(i), int16(-i), 7}}
	}
	return list
}

// plainSensor has the scale 1 and measures every 10 ticks.
func plainSensor() impl.Sensor {
	return impl.Sensor{Scale: impl.Vec{1, 1, 1}, Every: 10}
}

// badSensors returns sensors that are not valid, each one for a reason of its own.
func badSensors() []impl.Sensor {
	var list []impl.Sensor
	put := func(change func(s *impl.Sensor)) {
		s := plainSensor()
		change(&s)
		list = append(list, s)
	}
	for i := range 3 {
		for _, a := range []float32{infinite, -infinite, nan, otherNaN} {
			put(func(s *impl.Sensor) { s.Scale[i] = a })
			put(func(s *impl.Sensor) { s.Offset[i] = a })
		}
		put(func(s *impl.Sensor) { s.Scale[i] = 0 })
		put(func(s *impl.Sensor) { s.Scale[i] = minusZero })
	}
	for _, k := range []int64{0, -1, 1000001, math.MinInt64, math.MaxInt64} {
		put(func(s *impl.Sensor) { s.Every = k })
	}
	for _, k := range []int64{-1, 1000001, math.MinInt64, math.MaxInt64} {
		put(func(s *impl.Sensor) { s.Delay = k })
	}
	return list
}

// badCurves returns curves that are not valid, each one for a reason of its own.
func badCurves() []impl.Curve {
	list := []impl.Curve{
		{},
		{At: []float32{1}, By: []float32{1}},
		{At: []float32{1, 2}},
		{By: []float32{1, 2}},
		{At: []float32{1, 2}, By: []float32{1}},
		{At: []float32{1, 2}, By: []float32{1, 2, 3}},
		{At: []float32{1, 1}, By: []float32{1, 2}},
		{At: []float32{minusZero, 0}, By: []float32{1, 2}},
		{At: []float32{0, minusZero}, By: []float32{1, 2}},
		{At: []float32{2, 1}, By: []float32{1, 2}},
		{At: []float32{1, 2, 2}, By: []float32{1, 2, 3}},
		{At: []float32{1, 3, 2}, By: []float32{1, 2, 3}},
	}
	list = append(list, straight(33, 1, 0))
	for _, a := range []float32{infinite, -infinite, nan, otherNaN} {
		for i := range 4 {
			c := straight(4, 1, 0)
			c.At[i] = a
			list = append(list, c)
			c = straight(4, 1, 0)
			c.By[i] = a
			list = append(list, c)
		}
	}
	return list
}

// straight returns the curve through the points k, m * k + b, for k = 0, 1, and so on.
func straight(count int, m, b float32) impl.Curve {
	var c impl.Curve
	for k := range count {
		c.At = append(c.At, float32(k))
		c.By = append(c.By, sum(product(m, float32(k)), b))
	}
	return c
}

// badFeeds returns feeds that are not valid, each one for a reason of its own.
func badFeeds() [][]impl.Reading {
	list := [][]impl.Reading{
		{{Time: -1}},
		{{Time: math.MinInt64}},
		{{Time: 1000000001}},
		{{Time: math.MaxInt64}},
		{{Time: 5}, {Time: 5}},
		{{Time: 0}, {Time: 0}},
		{{Time: 6}, {Time: 5}},
		{{Time: 1}, {Time: 3}, {Time: 2}},
		{{Time: 1}, {Time: 3}, {Time: 3}},
		{{Time: -1}, {Time: 3}},
		{{Time: 3}, {Time: 1000000001}},
		append(fullFeed(0, 1), impl.Reading{Time: 1000}),
	}
	return list
}

func wantCounts(t *testing.T, what string, got impl.Counts, code int64, want impl.Counts, wanted int64) {
	t.Helper()
	if got != want {
		t.Errorf("%s: got %v, want %v", what, got, want)
	}
	wantCode(t, what, code, wanted)
}

func wantVecCode(t *testing.T, what string, got impl.Vec, code int64, want impl.Vec, wanted int64) {
	t.Helper()
	wantVec(t, what, got, want)
	wantCode(t, what, code, wanted)
}

func wantFeed(t *testing.T, what string, got []impl.Reading, code int64, want []impl.Reading, wanted int64) {
	t.Helper()
	if !slices.Equal(got, want) {
		t.Errorf("%s: got %v, want %v", what, got, want)
	}
	wantCode(t, what, code, wanted)
}

func wantBytes(t *testing.T, what string, got []byte, code int64, want []byte, wanted int64) {
	t.Helper()
	if !slices.Equal(got, want) {
		t.Errorf("%s: got %v, want %v", what, got, want)
	}
	wantCode(t, what, code, wanted)
}

// startOf writes what a message tells, cut off where it gets too long.
func startOf(list ...any) string {
	text := fmt.Sprint(list...)
	return text[:min(len(text), 150)]
}

// each names the cases of a list.
func each[T any](list []T, of func(what string, x T)) {
	for i, x := range list {
		of(startOf("case ", i, ", ", x), x)
	}
}
