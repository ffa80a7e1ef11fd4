package tests

import (
	"fmt"
	"math"
	"slices"
	"strings"
	"testing"

	"loop.example/g01204/impl"
)

// sensorArguments has something for every function of chapter 4.
type sensorArguments struct {
	s              impl.Sensor
	c              impl.Curve
	v              impl.Vec
	counts         impl.Counts
	x              float32
	a, b           []impl.Reading
	r              impl.Reading
	from, to, time int64
	seed           uint32
	most           int16
	mask           uint16
	data           []byte
}

// answers calls every function and writes all results, numbers by their bits.
// What is returned is overwritten then, as far as it has room.
func (g *sensorArguments) answers() string {
	var out strings.Builder
	add := func(list ...any) { fmt.Fprintln(&out, list...) }
	vec := func(v impl.Vec, code int64) { add(bitsOf(v[:]...), code) }
	feed := func(list []impl.Reading, code int64) {
		add(list, code)
		for i := range list[:cap(list)] {
			list[:cap(list)][i] = at(-5, 77)
		}
	}
	add(impl.ToCount(g.x), impl.ValidSensor(g.s), impl.IsSaturated(g.counts), impl.ValidCurve(g.c), impl.ValidFeed(g.a))
	add(impl.CountsOf(g.s, g.v))
	vec(impl.VecOfCounts(g.s, g.counts))
	times, code := impl.TimesBetween(g.s, g.from, g.to)
	add(times, code)
	for i := range times {
		times[i] = -5
	}
	add(impl.MeasureAt(g.s, g.time, g.v))
	add(impl.ShakeCounts(g.counts, g.seed, g.most))
	y, code := impl.CorrectBy(g.c, g.x)
	add(bitsOf(y), code)
	m, rest, code := impl.FitCurveLine(g.c)
	add(bitsOf(m, rest), code)
	feed(impl.InsertReading(g.a, g.r))
	feed(impl.MergeFeeds(g.a, g.b))
	feed(impl.MergeFeeds(g.a, nil))
	feed(impl.MergeFeeds(nil, g.a))
	feed(impl.ArrivedBy(g.s, g.a, g.time))
	feed(impl.DropReadings(g.a, g.mask))
	feed(impl.ReadPacket(g.data))
	vec(impl.ValueAt(g.s, g.a, g.time))
	vec(impl.MeanOfFeed(g.s, g.a))
	data, code := impl.PacketOf(g.a)
	add(data, code)
	for i := range data[:cap(data)] {
		data[:cap(data)][i] = 77
	}
	return out.String()
}

// roomy returns a copy of a list with room behind it, in which something lies.
func roomy[T any](list []T, behind T) []T {
	room := append(slices.Clone(list), behind, behind, behind)
	return room[:len(list)]
}

// withRoom returns a copy whose slices have room behind them.
func (g *sensorArguments) withRoom() sensorArguments {
	h := *g
	h.c.At, h.c.By = roomy(g.c.At, 99), roomy(g.c.By, 98)
	h.a, h.b = roomy(g.a, at(5, 5)), roomy(g.b, at(6, 6))
	h.data = roomy(g.data, 97)
	return h
}

// all writes the slices, with the room behind them.
func (g *sensorArguments) all() string {
	return fmt.Sprint(g.c.At[:len(g.c.At)+3], g.c.By[:len(g.c.By)+3], g.a[:len(g.a)+3], g.b[:len(g.b)+3], g.data[:len(g.data)+3])
}

// anySensing returns arguments of which some are not valid.
func (d *dice) anySensing() sensorArguments {
	step := 1 + d.below(30)
	g := sensorArguments{s: d.aSensor(), c: d.aCurve(), v: vecFrom(d.numbers()), counts: d.counts(), x: d.any(), a: d.aFeed(200, step), b: d.aFeed(200, step), r: at(int64(d.below(300)), d.aCount())}
	g.from, g.time, g.seed, g.most, g.mask = int64(d.below(4000)), int64(d.below(4000)), uint32(d.next()), d.aCount(), uint16(d.next())
	g.to = g.from + int64(d.below(300))*g.s.Every
	g.data = packetOf(d.aFeed(20, 9))
	if d.below(3) == 0 {
		g.time -= g.time % g.s.Every
	}
	switch d.below(12) {
	case 0:
		list := badSensors()
		g.s = list[d.below(len(list))]
	case 1:
		list := badCurves()
		g.c = list[d.below(len(list))]
	case 2:
		list := badFeeds()
		g.a = list[d.below(len(list))]
	case 3:
		list := badFeeds()
		g.b = list[d.below(len(list))]
	case 4:
		g.data[d.below(len(g.data))]++
	case 5:
		g.from, g.to, g.time, g.r.Time = -1, math.MaxInt64, math.MinInt64, 1000000001
	}
	return g
}

func TestEqualSensorsHaveEqualResults(t *testing.T) {
	d := &dice{seed: 140}
	list := make([]sensorArguments, 1500)
	first := make([]string, len(list))
	for i := range list {
		list[i] = d.anySensing()
		first[i] = list[i].answers()
	}
	for i := len(list) - 1; i >= 0; i-- { // in another order, so that a state that is kept would be seen
		g := list[i].withRoom()
		before := g.all()
		if got := g.answers(); got != first[i] {
			t.Fatalf("other results for equal arguments:\n%s\n%s", first[i], got)
		}
		if after := g.all(); after != before {
			t.Fatalf("an argument was modified, or what lies behind it:\n%s\n%s", before, after)
		}
	}
}

// TestEverySpecialNumberOfSensors puts each special number into each place: nothing may panic.
func TestEverySpecialNumberOfSensors(t *testing.T) {
	d := &dice{seed: 141}
	for _, a := range specials() {
		for i := range 3 {
			for range 4 {
				g := d.anySensing()
				g.v[i], g.x = a, a
				g.answers()
				g.s.Scale[i] = a
				g.answers()
				g.s = d.aSensor()
				g.s.Offset[i] = a
				g.c.At = append([]float32{a}, g.c.At...)
				g.answers()
				g.c = straight(3+i, 2, 1)
				g.c.By[i] = a
				g.answers()
			}
		}
	}
}

// TestEveryGreatInteger puts integers that a careless program multiplies or adds into each place.
func TestEveryGreatInteger(t *testing.T) {
	d := &dice{seed: 142}
	list := []int64{0, 1, -1, 1000000, 1000001, 1000000000, 1000000001, 1 << 32, math.MaxInt64, math.MaxInt64 - 1, math.MinInt64, math.MinInt64 + 1}
	for _, k := range list {
		for _, n := range list {
			g := d.anySensing()
			g.s = plainSensor()
			g.from, g.to, g.time, g.r.Time = k, n, n, k
			g.answers()
			g.s.Every, g.s.Delay = k, n
			g.a = []impl.Reading{at(k, 1), at(n, 2)}
			g.answers()
		}
	}
}

// TestLongArguments has lists of a million elements.
func TestLongArguments(t *testing.T) {
	g := (&dice{seed: 143}).anySensing()
	g.c.At, g.c.By = make([]float32, 500000), make([]float32, 500000)
	g.a, g.b, g.data = make([]impl.Reading, 250000), make([]impl.Reading, 250000), make([]byte, 1000000)
	for i := range g.a {
		g.a[i].Time, g.b[i].Time = int64(i), int64(i)
	}
	for i := range g.c.At {
		g.c.At[i] = float32(i)
	}
	first := g.answers()
	wantBool(t, "equal results", g.answers() == first, true)
	_, code := impl.MergeFeeds(g.a, g.b)
	wantCode(t, "MergeFeeds of very long lists", code, impl.ErrInvalid)
	_, code = impl.ReadPacket(g.data)
	wantCode(t, "ReadPacket of many bytes", code, impl.ErrRange)
}
