package tests

import (
	"fmt"
	"math"
	"runtime"
	"slices"
	"strings"
	"sync"
	"testing"

	"loop.example/g01204/impl"
)

// fleetArguments has something for every function of chapter 9.
type fleetArguments struct {
	f        impl.Fleet
	deeds    []impl.Deed
	one      impl.Deed
	vehicle  int64
	deedText string
	script   string
}

// answers calls every function and writes all results, numbers by their bits. What
// is returned is overwritten then, as far as it has room.
func (a *fleetArguments) answers() string {
	var out strings.Builder
	add := func(list ...any) { fmt.Fprintln(&out, list...) }
	land := func(m impl.LandMap) {
		add(bitsOf(m.Side), len(m.Marks))
		for i, x := range m.Marks[:cap(m.Marks)] {
			if i < len(m.Marks) {
				add(x.Cell, bitsOf(x.At[:]...), bitsOf(x.Weight), x.Seen, x.Last)
			}
			m.Marks[:cap(m.Marks)][i] = plainMark(-5, 7, 7)
		}
	}
	minds := func(list []impl.Mind) {
		add(len(list))
		for _, mind := range list { // all of them are written before one is overwritten
			add(mind.Taken, bitsOf(mind.Map.Side), impl.MapText(mind.Map))
		}
		for i, mind := range list[:cap(list)] {
			if i < len(list) {
				land(mind.Map)
			}
			list[:cap(list)][i] = impl.Mind{Taken: 77}
		}
	}
	add(impl.ValidFleet(a.f), impl.ValidDeed(a.one), impl.DeedText(a.one))
	add(impl.ReadDeed(a.deedText))
	y, done, code := impl.YardAfter(a.f, a.deeds)
	add(done, code, len(y.Wire), y.Wire)
	minds(y.Minds)
	minds(y.Saved)
	for i := range y.Wire[:cap(y.Wire)] {
		y.Wire[:cap(y.Wire)][i] = impl.Packet{To: 77, Text: "x"}
	}
	add(impl.RefusedDeed(a.f, a.deeds))
	m, code := impl.MapOf(a.f, a.deeds, a.vehicle)
	add(code)
	land(m)
	add(impl.AreAgreed(a.f, a.deeds))
	plan, code := impl.FinishDeeds(a.f, a.deeds)
	add(plan, code)
	for i := range plan[:cap(plan)] {
		plan[:cap(plan)][i] = impl.Deed{Kind: 77}
	}
	add(impl.RunScript(a.f, a.script))
	return out.String()
}

// withRoom returns a copy whose slices have room behind them.
func (a *fleetArguments) withRoom() fleetArguments {
	b := *a
	b.f.Sights, b.deeds = roomy(a.f.Sights, []impl.Sight{sightAt(1, 2, 3)}), roomy(a.deeds, impl.Deed{Kind: 78})
	for v, list := range b.f.Sights {
		b.f.Sights[v] = roomy(list, sightAt(4, 5, 6))
	}
	return b
}

// all writes the slices, with the room behind them.
func (a *fleetArguments) all() string {
	text := fmt.Sprint(a.f.Sights[:len(a.f.Sights)+3], a.deeds[:len(a.deeds)+3])
	for _, list := range a.f.Sights {
		text += fmt.Sprint(list[:len(list)+3])
	}
	return text
}

// anyFleet returns arguments of which some are not valid.
func (d *dice) anyFleet() fleetArguments {
	a := fleetArguments{f: d.aFleet(6)}
	a.deeds, a.script, a.vehicle = d.someDeeds(a.f, 60), d.aFleetScript(a.f, 60), int64(d.below(len(a.f.Sights)))
	a.one = d.aDeed(a.f)
	a.deedText = textOfDeed(a.one)
	switch d.below(12) {
	case 0:
		list := badFleets()
		a.f = list[d.below(len(list))]
	case 1:
		list := badDeeds()
		a.one = list[d.below(len(list))]
		a.deeds = append(a.deeds, a.one)
	case 2:
		a.vehicle = noIndices(4)[d.below(7)]
	case 3:
		a.deeds = slices.Repeat(append(a.deeds, a.one), 5)
	case 4:
		a.deedText, a.script = a.deedText[:d.below(len(a.deedText))], a.script[d.below(len(a.script)+1):]
	case 5:
		a.script = strings.Repeat(a.script+"\n", 12)
	}
	return a
}

func TestEqualFleetsHaveEqualResults(t *testing.T) {
	d := &dice{seed: 540}
	list := make([]fleetArguments, 1200)
	first := make([]string, len(list))
	for i := range list {
		list[i] = d.anyFleet()
		first[i] = list[i].answers()
	}
	for i := len(list) - 1; i >= 0; i-- { // in another order, so that a state that is kept would be seen
		a := list[i].withRoom()
		before := a.all()
		if got := a.answers(); got != first[i] {
			t.Fatalf("other results for equal arguments:\n%s\n%s", first[i], got)
		}
		if after := a.all(); after != before {
			t.Fatalf("an argument was modified, or what lies behind it:\n%s\n%s", before, after)
		}
	}
}

// TestFleetsAtTheSameTime calls the functions in several goroutines, with arguments
// that they share.
func TestFleetsAtTheSameTime(t *testing.T) {
	d := &dice{seed: 541}
	for range 30 {
		a := d.anyFleet()
		want := a.answers()
		var got [8]string
		var all sync.WaitGroup
		for i := range got {
			all.Go(func() { got[i] = a.answers() })
		}
		all.Wait()
		for _, text := range got {
			wantBool(t, "the same at the same time", text == want, true)
		}
	}
}

// TestNoVehicleIsLeft counts the goroutines: none goes on behind a call. There is one
// processor, so that those that are not waited for have not run yet when the call has
// returned; now and then the machine may stop one that is just about to end.
func TestNoVehicleIsLeft(t *testing.T) {
	defer runtime.GOMAXPROCS(runtime.GOMAXPROCS(1))
	d := &dice{seed: 542}
	before, left := runtime.NumGoroutine(), 0
	look := func() {
		if runtime.NumGoroutine() > before {
			left++
		}
		for range 1000 {
			runtime.Gosched()
		}
	}
	for range 300 {
		a := d.anyFleet()
		a.f = rowFleet(4, 2)
		impl.YardAfter(a.f, a.deeds)
		look()
		impl.RefusedDeed(a.f, a.deeds)
		look()
		impl.MapOf(a.f, a.deeds, a.vehicle)
		look()
		impl.AreAgreed(a.f, a.deeds)
		look()
		impl.FinishDeeds(a.f, a.deeds)
		look()
		impl.RunScript(a.f, a.script)
		look()
		wantBool(t, "none is there a moment later", runtime.NumGoroutine() <= before, true)
	}
	wantBool(t, fmt.Sprint("goroutines behind a call: ", left), left < 60, true)
}

// TestEverySpecialNumberOfFleets puts each special number into each place: nothing
// may panic.
func TestEverySpecialNumberOfFleets(t *testing.T) {
	d := &dice{seed: 543}
	for _, b := range specials() {
		for _, c := range specials() {
			a := d.anyFleet()
			x := impl.Sight{At: impl.Vec{b, 0, c}, Weight: 1, Time: 1}
			a.f = impl.Fleet{Side: 1, Gate: 1, Sights: [][]impl.Sight{{x, x}, {sightAt(0, 0, 0), x}}}
			a.deeds = deedsOf("see 0; see 0; see 1; see 1; send 0 1; deliver 0; send 1 0; copy 0; save 0; crash 1; see 1")
			a.answers()
			a.f.Side = float32(math.Abs(float64(b)))
			a.answers()
			a.f.Sights[0][1].Weight, a.f.Gate = c, b
			a.answers()
			a.f = impl.Fleet{Side: b, Gate: c, Sights: [][]impl.Sight{{sightAt(0, minusZero, 0), sightAt(b, c, 0)}, {sightAt(0, 0, 0)}}}
			a.answers()
			a.f = impl.Fleet{Side: greatest, Gate: b, Sights: [][]impl.Sight{{{At: impl.Vec{greatest, 1, c}, Weight: b}, {At: impl.Vec{greatest, 1, b}, Weight: c}}, {}}}
			a.answers()
		}
	}
}

// TestEveryIntegerOfFleets puts great integers into each place.
func TestEveryIntegerOfFleets(t *testing.T) {
	d := &dice{seed: 544}
	list := []int64{0, 1, -1, 2, 3, 4, 5, 7, 8, 9, 10, 999, 1000, 1000000000, 1000000001, 1 << 31, 1 << 32, -1 << 32, math.MaxInt64, math.MinInt64}
	for _, b := range list {
		for _, c := range list {
			a := d.anyFleet()
			a.f = rowFleet(4, 2)
			for kind := range int64(9) {
				a.one = impl.Deed{Kind: kind, A: b, B: c}
				a.deeds = append(deedsOf("see 0; send 0 1; see 1"), a.one)
				a.vehicle = c
				a.deedText = fmt.Sprintf("send %d %d", b, c)
				a.script = fmt.Sprintf("see %d\nsend %d %d\ncopy %d\nmarks %d\nsave %d\ncrash %d\ndrop %d", b, b, c, b, c, b, c, b)
				a.answers()
			}
			a.one = impl.Deed{Kind: b, A: c}
			a.f.Sights[1][1].Time, a.f.Sights[2][0].Time = b, c
			a.answers()
		}
	}
}

// TestLongFleets has lists of many elements.
func TestLongFleets(t *testing.T) {
	d := &dice{seed: 545}
	long := slices.Repeat([]impl.Sight{sightAt(1, 2, 3)}, 200000)
	a := d.anyFleet()
	for _, f := range []impl.Fleet{plainFleet(long), plainFleet(nil, nil, long), plainFleet(make([][]impl.Sight, 200000)...), plainFleet(slices.Repeat([][]impl.Sight{long[:16]}, 10000)...)} {
		a.f = f
		wantBool(t, "ValidFleet of a very great fleet", impl.ValidFleet(f), false)
		a.answers()
	}
	a.f = rowFleet(4, 16)
	a.deeds, a.script, a.deedText = slices.Repeat(deedsOf("see 0"), 300000), strings.Repeat("see 0\n", 100000), strings.Repeat("see 0 ", 100000)
	a.answers()
	a.deeds = slices.Repeat(deedsOf("send 0 1; send 1 0; send 2 3; deliver 0; copy 0"), 40)
	a.answers()
}

// TestYardsAreTheirOwn changes a fleet behind its yard, and maps of a yard behind others.
func TestYardsAreTheirOwn(t *testing.T) {
	for _, text := range []string{"save 0; save 1", "save 0; save 1; crash 0; crash 1", "save 0; save 1; crash 0; crash 1; save 0; save 1", "save 0; crash 0; save 1"} {
		f := rowFleet(2, 3)
		deeds := deedsOf("see 0; see 0; send 0 1; copy 0; see 1; " + text)
		k, wantedDone, _, _ := depotAfter(fleetLike(f), deeds)
		y, done, code := impl.YardAfter(f, deeds)
		f.Sights[0][0].At, deeds[0] = impl.Vec{9, 9, 9}, impl.Deed{}
		wantYard(t, "YardAfter", y, done, code, k.yard(), wantedDone, impl.OK)
		var marks []*impl.Mark
		for v := range y.Minds {
			marks = append(marks, &y.Minds[v].Map.Marks[0], &y.Saved[v].Map.Marks[0])
		}
		for i, x := range marks {
			x.Seen = int64(100 + i)
		}
		for i, x := range marks {
			wantBool(t, "a map of its own behind "+text, x.Seen == int64(100+i), true)
		}
	}
}
