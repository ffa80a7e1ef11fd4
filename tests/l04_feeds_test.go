package tests

import (
	"fmt"
	"math"
	"slices"
	"testing"

	"loop.example/g01204/impl"
)

// noTimes are no times.
func noTimes() []int64 {
	return []int64{-1, -10, 1000000001, math.MinInt64, math.MaxInt64, math.MaxInt64 - 999999, 1 << 32}
}

// at returns a reading whose counts tell it from others.
func at(time int64, k int16) impl.Reading {
	return impl.Reading{Time: time, Values: impl.Counts{k, -k, 2 * k}}
}

func TestFeedsThatAreValid(t *testing.T) {
	for _, list := range [][]impl.Reading{
		nil, {}, {at(0, 1)}, {at(1000000000, 1)}, {at(0, 1), at(1, 2)}, {at(0, 0), at(1000000000, 0)}, fullFeed(0, 1), fullFeed(999999745, 1),
	} {
		wantBool(t, fmt.Sprint("ValidFeed ", list), impl.ValidFeed(list), true)
	}
	for i, list := range badFeeds() {
		wantBool(t, fmt.Sprint("bad feed ", i), impl.ValidFeed(list), false)
	}
	wantBool(t, "a feed that ends too late", impl.ValidFeed(fullFeed(999999746, 1)), false)
	wantBool(t, "a very long feed", impl.ValidFeed(make([]impl.Reading, 1000000)), false)
	d := &dice{seed: 120}
	for range 2000 {
		list := d.aFeed(300, 2)
		if len(list) > 0 && d.below(2) == 0 {
			list[d.below(len(list))].Time += int64(d.below(5)) - 2
		}
		wantBool(t, fmt.Sprint("ValidFeed ", list), impl.ValidFeed(list), validFeed(list))
	}
}

func wantInserted(t *testing.T, list []impl.Reading, r impl.Reading, want ...impl.Reading) {
	t.Helper()
	got, code := impl.InsertReading(list, r)
	wantFeed(t, fmt.Sprint("InsertReading ", list, r), got, code, want, impl.OK)
}

func TestInsertedReadings(t *testing.T) {
	list := []impl.Reading{at(10, 1), at(20, 2), at(30, 3)}
	wantInserted(t, nil, at(0, 9), at(0, 9))
	wantInserted(t, list, at(0, 9), at(0, 9), list[0], list[1], list[2])
	wantInserted(t, list, at(9, 9), at(9, 9), list[0], list[1], list[2])
	wantInserted(t, list, at(15, 9), list[0], at(15, 9), list[1], list[2])
	wantInserted(t, list, at(29, 9), list[0], list[1], at(29, 9), list[2])
	wantInserted(t, list, at(31, 9), list[0], list[1], list[2], at(31, 9))
	wantInserted(t, list, at(1000000000, 9), list[0], list[1], list[2], at(1000000000, 9))
	for _, r := range list {
		wantInserted(t, list, at(r.Time, 9), list...)
	}
}

func TestReadingsThatAreNotInserted(t *testing.T) {
	none := func(what string, list []impl.Reading, r impl.Reading, want int64) {
		t.Helper()
		got, code := impl.InsertReading(list, r)
		wantFeed(t, "InsertReading, "+what, got, code, nil, want)
	}
	full := fullFeed(10, 10)
	for _, time := range []int64{0, 15, 2569, 2571, 1000000000} {
		none("a full feed", full, at(time, 9), impl.ErrLimit)
		wantInserted(t, full[:0], at(time, 9), at(time, 9))
	}
	for _, r := range full {
		wantInserted(t, full, at(r.Time, 9), full...)
	}
	wantInserted(t, full[:255], full[255], full...)
	wantInserted(t, full[1:], full[0], full...)
	for _, time := range noTimes() {
		none("no time", nil, at(time, 9), impl.ErrRange)
		none("no time, three readings", full[:3], at(time, 9), impl.ErrRange)
		none("no time, a full feed", full, at(time, 9), impl.ErrRange)
	}
	each(badFeeds(), func(what string, list []impl.Reading) {
		for _, time := range []int64{4, -1, 1000000001} {
			none(what, list, at(time, 9), impl.ErrInvalid)
		}
	})
}

func wantMerged(t *testing.T, a, b []impl.Reading, want ...impl.Reading) {
	t.Helper()
	got, code := impl.MergeFeeds(a, b)
	wantFeed(t, fmt.Sprint("MergeFeeds ", a, b), got, code, want, impl.OK)
}

func TestMergedFeeds(t *testing.T) {
	a := []impl.Reading{at(10, 1), at(20, 2), at(30, 3)}
	b := []impl.Reading{at(5, 4), at(20, 5), at(25, 6), at(30, 7), at(40, 8)}
	wantMerged(t, nil, nil)
	wantMerged(t, a, nil, a...)
	wantMerged(t, nil, a, a...)
	wantMerged(t, a, a, a...)
	wantMerged(t, a, b, at(5, 4), at(10, 1), at(20, 2), at(25, 6), at(30, 3), at(40, 8))
	wantMerged(t, b, a, at(5, 4), at(10, 1), at(20, 5), at(25, 6), at(30, 7), at(40, 8))
	wantMerged(t, a[:1], a[1:], a...)
	wantMerged(t, a[1:], a[:1], a...)
	full := fullFeed(0, 2)
	other := fullFeed(0, 2)
	for i := range other {
		other[i].Values = impl.Counts{-1, -2, int16(i)}
	}
	wantMerged(t, full, other, full...)
	wantMerged(t, other, full, other...)
	wantMerged(t, full[:100], full[100:], full...)
	wantMerged(t, full, full[7:9], full...)
	for _, b := range [][]impl.Reading{{at(1, 1)}, {at(511, 1)}, {at(0, 1), at(600, 1)}, fullFeed(1, 2), fullFeed(2, 2)} {
		got, code := impl.MergeFeeds(full, b)
		wantFeed(t, "MergeFeeds, too many", got, code, nil, impl.ErrLimit)
		got, code = impl.MergeFeeds(b, full)
		wantFeed(t, "MergeFeeds, too many", got, code, nil, impl.ErrLimit)
	}
	each(badFeeds(), func(what string, bad []impl.Reading) {
		for _, good := range [][]impl.Reading{nil, a, full, bad} {
			got, code := impl.MergeFeeds(bad, good)
			wantFeed(t, "MergeFeeds, "+what, got, code, nil, impl.ErrInvalid)
			got, code = impl.MergeFeeds(good, bad)
			wantFeed(t, "MergeFeeds, "+what, got, code, nil, impl.ErrInvalid)
		}
	})
}

func TestMergedFeedsAgain(t *testing.T) {
	d := &dice{seed: 121}
	found := map[int64]int{}
	for range 3000 {
		step := 1 + d.below(20)
		a, b := d.aFeed(256, step), d.aFeed(256, step)
		want := mergedFeeds(a, b)
		got, code := impl.MergeFeeds(a, b)
		found[code]++
		if len(want) > 256 {
			wantFeed(t, "MergeFeeds, too many", got, code, nil, impl.ErrLimit)
			continue
		}
		wantFeed(t, "MergeFeeds", got, code, want, impl.OK)
		wantBool(t, "a merged feed is one", impl.ValidFeed(got), true)
		again, code := impl.MergeFeeds(b, a)
		wantFeed(t, "MergeFeeds, the other order", again, code, mergedFeeds(b, a), impl.OK)
		if len(got) == len(a)+len(b) {
			wantFeed(t, "no time in common", again, code, got, impl.OK)
		}
	}
	wantBool(t, fmt.Sprint("feeds that can be merged, and others ", found), found[impl.OK] > 500 && found[impl.ErrLimit] > 500, true)
}

// TestReadingsOneByOne inserts the readings of a feed in any order.
func TestReadingsOneByOne(t *testing.T) {
	d := &dice{seed: 122}
	for range 200 {
		feed := d.aFeed(40, 9)
		left, list := slices.Clone(feed), []impl.Reading(nil)
		for len(left) > 0 {
			i := d.below(len(left))
			var code int64
			list, code = impl.InsertReading(list, left[i])
			wantCode(t, "InsertReading", code, impl.OK)
			left = slices.Delete(left, i, i+1)
		}
		wantFeed(t, "readings that are inserted", list, impl.OK, feed, impl.OK)
	}
}

func TestReadingsThatHaveArrived(t *testing.T) {
	s := plainSensor()
	list := []impl.Reading{at(0, 1), at(10, 2), at(11, 3), at(1000000000, 4)}
	arrived := func(delay, time int64, want ...impl.Reading) {
		t.Helper()
		s.Delay = delay
		got, code := impl.ArrivedBy(s, list, time)
		wantFeed(t, fmt.Sprint("ArrivedBy ", delay, time), got, code, want, impl.OK)
	}
	arrived(0, 0, list[0])
	arrived(0, 9, list[0])
	arrived(0, 10, list[:2]...)
	arrived(0, 11, list[:3]...)
	arrived(0, 999999999, list[:3]...)
	arrived(0, 1000000000, list...)
	arrived(3, 2)
	arrived(3, 3, list[0])
	arrived(3, 12, list[0])
	arrived(3, 13, list[:2]...)
	arrived(3, 14, list[:3]...)
	arrived(1, 1000000000, list[:3]...)
	arrived(1000000, 1000009, list[0])
	arrived(1000000, 1000010, list[:2]...)
	arrived(1000000, 1000000000, list[:3]...)
	full := fullFeed(0, 1)
	got, code := impl.ArrivedBy(plainSensor(), full, 300)
	wantFeed(t, "ArrivedBy, a full feed", got, code, full, impl.OK)
	got, code = impl.ArrivedBy(plainSensor(), nil, 300)
	wantFeed(t, "ArrivedBy, nothing", got, code, nil, impl.OK)
	for _, time := range noTimes() {
		got, code := impl.ArrivedBy(plainSensor(), full, time)
		wantFeed(t, "ArrivedBy, no time", got, code, nil, impl.ErrRange)
	}
}

func wantValue(t *testing.T, s impl.Sensor, list []impl.Reading, time int64, want impl.Vec) {
	t.Helper()
	v, code := impl.ValueAt(s, list, time)
	wantVecCode(t, fmt.Sprint("ValueAt ", time), v, code, want, impl.OK)
}

func wantNoValue(t *testing.T, what string, s impl.Sensor, list []impl.Reading, time, want int64) {
	t.Helper()
	v, code := impl.ValueAt(s, list, time)
	wantVecCode(t, fmt.Sprintf("ValueAt %d, %s", time, what), v, code, impl.Vec{}, want)
}

func TestValuesBetweenReadings(t *testing.T) {
	s := impl.Sensor{Scale: impl.Vec{0.5, -1, 2}, Offset: impl.Vec{1, 0, -8}, Every: 10, Delay: 1000}
	list := []impl.Reading{at(10, 0), at(20, 10), at(24, -6)}
	wantValue(t, s, list, 10, impl.Vec{1, 0, -8})
	wantValue(t, s, list, 15, impl.Vec{3.5, 5, 12})
	wantValue(t, s, list, 20, impl.Vec{6, 10, 32})
	wantValue(t, s, list, 21, impl.Vec{4, 6, 16})
	wantValue(t, s, list, 23, impl.Vec{0, -2, -16})
	wantValue(t, s, list, 24, impl.Vec{-2, -6, -32})
	wantValue(t, s, list[:1], 10, impl.Vec{1, 0, -8})
	for _, time := range []int64{0, 9, 25, 1000000000} {
		wantNoValue(t, "outside", s, list, time, impl.ErrNotFound)
	}
	wantNoValue(t, "before the only one", s, list[:1], 9, impl.ErrNotFound)
	wantNoValue(t, "behind the only one", s, list[:1], 11, impl.ErrNotFound)
	wantNoValue(t, "no readings", s, nil, 10, impl.ErrNotFound)
	for _, time := range noTimes() {
		wantNoValue(t, "no time", s, list, time, impl.ErrRange)
		wantNoValue(t, "no time, no readings", s, nil, time, impl.ErrRange)
	}
	// Ticks are narrowed before they are divided: both become 1 << 24.
	list = []impl.Reading{at(0, 0), at(1<<24+1, 1)}
	s = plainSensor()
	wantValue(t, s, list, 1<<24, impl.Vec{1, -1, 2})
	// The difference is not finite, and neither is what comes of it.
	s.Scale = impl.Vec{greatest, greatest, greatest}
	wantValue(t, s, []impl.Reading{{Time: 0, Values: impl.Counts{-1, 1, 0}}, {Time: 2, Values: impl.Counts{1, -1, 1}}}, 1, impl.Vec{infinite, -infinite, greatest / 2})
}

func TestValuesAgain(t *testing.T) {
	d := &dice{seed: 123}
	found := map[int64]int{}
	for range 5000 {
		s := d.aSensor()
		step := []int{3, 50, 3000000}[d.below(3)]
		list := d.aFeed(30, step)
		for range 5 {
			time := int64(d.below(16 * step))
			want, wanted := valueOf(s, list, time)
			v, code := impl.ValueAt(s, list, time)
			wantVecCode(t, fmt.Sprint("ValueAt ", s, list, time), v, code, want, wanted)
			found[code]++
		}
		for _, r := range list {
			v, code := impl.VecOfCounts(s, r.Values)
			wantCode(t, "VecOfCounts", code, impl.OK)
			wantValue(t, s, list, r.Time, v)
		}
	}
	wantBool(t, fmt.Sprint("times with and without a value ", found), found[impl.OK] > 5000 && found[impl.ErrNotFound] > 5000, true)
}

func TestReadingsThatAreLeftOut(t *testing.T) {
	full := fullFeed(3, 7)
	for _, mask := range []uint16{0, 1, 2, 1 << 15, 0x8001, 0x5555, 0xfffe, 0x7fff, 0xffff} {
		for _, count := range []int{0, 1, 15, 16, 17, 256} {
			var want []impl.Reading
			for i, r := range full[:count] {
				if bits := fmt.Sprintf("%016b", mask); bits[15-i%16] == '0' {
					want = append(want, r)
				}
			}
			got, code := impl.DropReadings(full[:count], mask)
			wantFeed(t, fmt.Sprintf("DropReadings %d of %04x", count, mask), got, code, want, impl.OK)
		}
	}
	each(badFeeds(), func(what string, list []impl.Reading) {
		for _, mask := range []uint16{0, 0xffff} {
			got, code := impl.DropReadings(list, mask)
			wantFeed(t, "DropReadings, "+what, got, code, nil, impl.ErrInvalid)
		}
	})
}

func wantMean(t *testing.T, s impl.Sensor, list []impl.Reading, want impl.Vec) {
	t.Helper()
	v, code := impl.MeanOfFeed(s, list)
	wantVecCode(t, fmt.Sprint("MeanOfFeed ", s, list), v, code, want, impl.OK)
}

func TestMeansOfFeeds(t *testing.T) {
	s := impl.Sensor{Scale: impl.Vec{0.5, -1, 2}, Offset: impl.Vec{1, 0, -8}, Every: 1}
	wantMean(t, s, []impl.Reading{at(10, 4)}, impl.Vec{3, 4, 8})
	wantMean(t, s, []impl.Reading{at(10, 4), at(11, 5), at(1000, 0)}, impl.Vec{2.5, 3, 4})
	// The numbers are 1 << 24, 1 and 1 less 1 << 24, of which the 1 is lost where it meets the first one.
	s = impl.Sensor{Scale: impl.Vec{1 << 14, 1 << 14, 1 << 14}, Offset: impl.Vec{1, 1, 1}, Every: 1}
	list := []impl.Reading{{Time: 0, Values: impl.Counts{1024, 0, 1024}}, {Time: 1, Values: impl.Counts{0, 1024, -1024}}, {Time: 2, Values: impl.Counts{-1024, -1024, 0}}}
	wantMean(t, s, list, impl.Vec{1.0 / 3, 1.0 / 3, 2.0 / 3})
	// Sums begin with the first number: from 0 on, -0 would be lost.
	s = impl.Sensor{Scale: impl.Vec{-1, 1, -1}, Offset: impl.Vec{minusZero, minusZero, 0}, Every: 1}
	wantMean(t, s, []impl.Reading{{Time: 0}, {Time: 1}}, impl.Vec{minusZero, 0, 0})
	s.Scale = impl.Vec{greatest, -greatest, greatest}
	wantMean(t, s, []impl.Reading{{Time: 0, Values: impl.Counts{1, 1, 1}}, {Time: 1, Values: impl.Counts{1, 1, -1}}}, impl.Vec{infinite, -infinite, 0})
	for _, s := range []impl.Sensor{s, plainSensor()} {
		v, code := impl.MeanOfFeed(s, nil)
		wantVecCode(t, "MeanOfFeed of nothing", v, code, impl.Vec{}, impl.ErrNotFound)
	}
	d := &dice{seed: 124}
	for range 5000 {
		s, list := d.aSensor(), d.aFeed(256, 9)
		want, wanted := meanOf(s, list)
		v, code := impl.MeanOfFeed(s, list)
		wantVecCode(t, fmt.Sprint("MeanOfFeed ", s, list), v, code, want, wanted)
	}
}

// TestFeedsOfBadSensors has ErrInvalid ahead of all others, whether it is the sensor or the feed.
func TestFeedsOfBadSensors(t *testing.T) {
	none := func(what string, s impl.Sensor, list []impl.Reading) {
		t.Helper()
		for _, time := range []int64{5, -1, 1000000001} {
			got, code := impl.ArrivedBy(s, list, time)
			wantFeed(t, "ArrivedBy, "+what, got, code, nil, impl.ErrInvalid)
			wantNoValue(t, what, s, list, time, impl.ErrInvalid)
		}
		v, code := impl.MeanOfFeed(s, list)
		wantVecCode(t, "MeanOfFeed, "+what, v, code, impl.Vec{}, impl.ErrInvalid)
	}
	each(badSensors(), func(what string, s impl.Sensor) {
		for _, list := range [][]impl.Reading{nil, {at(5, 1)}, {at(5, 1), at(5, 1)}} {
			none(what, s, list)
		}
	})
	each(badFeeds(), func(what string, list []impl.Reading) { none(what, plainSensor(), list) })
}
