package tests

import (
	"fmt"
	"math"
	"slices"
	"strings"
	"testing"

	"loop.example/g01204/impl"
)

// What the tests of chapter 9 need: fleets, deeds and scripts, valid or not.

// sightAt is a sight with the weight 1 and the time 5.
func sightAt(x, y, z float32) impl.Sight {
	return impl.Sight{At: impl.Vec{x, y, z}, Weight: 1, Time: 5}
}

// plainFleet has the side 1, the gate 1/2, and the vehicles that see the sights.
func plainFleet(list ...[]impl.Sight) impl.Fleet {
	return impl.Fleet{Side: 1, Gate: 0.5, Sights: list}
}

// twoFleet is the fleet of the chapter's example.
func twoFleet() impl.Fleet {
	return plainFleet([]impl.Sight{sightAt(0, 0, 0)}, []impl.Sight{sightAt(3, 0, 0)})
}

// rowFleet has so many vehicles with so many sights each, all in cells of their own.
func rowFleet(vehicles, sights int) impl.Fleet {
	f := plainFleet(make([][]impl.Sight, vehicles)...)
	for v := range f.Sights {
		for i := range sights {
			f.Sights[v] = append(f.Sights[v], sightAt(float32(3*i), float32(3*v), 0.5))
		}
	}
	return f
}

// crowdedFleet has a vehicle whose second sight finds no place: it would be joined with
// the first one, and their sum is infinite. The other vehicle sees twice as well.
func crowdedFleet() impl.Fleet {
	huge := impl.Sight{At: impl.Vec{3e38, 0, 0}, Weight: 1000, Time: 5}
	small := impl.Sight{Weight: 1, Time: 6}
	return impl.Fleet{Side: 1e38, Gate: 1, Sights: [][]impl.Sight{{huge, huge, small}, {small, small}}}
}

// deedsOf returns the deeds of texts that are separated by semicolons.
func deedsOf(text string) []impl.Deed {
	var deeds []impl.Deed
	for line := range strings.SplitSeq(text, "; ") {
		if line == "" {
			continue
		}
		d, ok := deedOf(line)
		if !ok {
			panic("no deed: " + line)
		}
		deeds = append(deeds, d)
	}
	return deeds
}

// textsOf returns the texts of deeds.
func textsOf(deeds []impl.Deed) []string {
	var texts []string
	for _, d := range deeds {
		texts = append(texts, textOfDeed(d))
	}
	return texts
}

// badSights returns sights that no fleet with the side 1 may have, each one for a
// reason of its own.
func badSights() []impl.Sight {
	var list []impl.Sight
	put := func(change func(x *impl.Sight)) {
		x := sightAt(1, 2, 3)
		change(&x)
		list = append(list, x)
	}
	for i := range 3 {
		for _, a := range []float32{infinite, -infinite, nan, otherNaN, 1000001, -1000000.5, greatest, -greatest, 1e10, math.Nextafter32(-1000000, -infinite)} {
			put(func(x *impl.Sight) { x.At[i] = a })
		}
	}
	for _, a := range append(badSides(), 1000001, math.Nextafter32(1000000, infinite), greatest) {
		put(func(x *impl.Sight) { x.Weight = a })
	}
	for _, k := range noTimes() {
		put(func(x *impl.Sight) { x.Time = k })
	}
	return list
}

// badFleets returns fleets that are not valid, each one for a reason of its own.
func badFleets() []impl.Fleet {
	var list []impl.Fleet
	put := func(change func(f *impl.Fleet)) {
		f := rowFleet(3, 2)
		change(&f)
		list = append(list, f)
	}
	for _, a := range badSides() {
		put(func(f *impl.Fleet) { f.Side = a })
		put(func(f *impl.Fleet) { f.Side, f.Sights = a, make([][]impl.Sight, 2) })
	}
	for _, a := range []float32{-1, -tiniest, -greatest, infinite, -infinite, nan, otherNaN} {
		put(func(f *impl.Fleet) { f.Gate = a })
	}
	put(func(f *impl.Fleet) { f.Side = 1e-7 }) // cells with numbers that are too great
	put(func(f *impl.Fleet) { f.Sights = nil })
	put(func(f *impl.Fleet) { f.Sights = [][]impl.Sight{} })
	put(func(f *impl.Fleet) { f.Sights = rowFleet(5, 2).Sights })
	put(func(f *impl.Fleet) { f.Sights = make([][]impl.Sight, 5) })
	for v := range 3 {
		put(func(f *impl.Fleet) { f.Sights[v] = rowFleet(1, 17).Sights[0] })
	}
	for i, x := range badSights() {
		put(func(f *impl.Fleet) { f.Sights[i%3][i/3%2] = x })
	}
	put(func(f *impl.Fleet) { f.Sights[2][1] = badSights()[0] })
	return list
}

// badDeeds returns deeds that are not valid, each one for a reason of its own.
func badDeeds() []impl.Deed {
	var list []impl.Deed
	for _, k := range []int64{0, -1, 8, 9, 1 << 32, 1<<32 + 1, math.MaxInt64, math.MinInt64} {
		list = append(list, impl.Deed{Kind: k})
	}
	for kind := range int64(7) {
		for _, k := range []int64{-1, 1000, 1001, 1 << 32, -1 << 32, math.MaxInt64, math.MinInt64} {
			list = append(list, impl.Deed{Kind: kind + 1, A: k}, impl.Deed{Kind: kind + 1, B: k})
		}
		if kind+1 != impl.DdSend {
			list = append(list, impl.Deed{Kind: kind + 1, B: 1}, impl.Deed{Kind: kind + 1, A: 1, B: 999})
		}
	}
	return list
}

// aSight returns a valid sight, which is often near others.
func (d *dice) aSight(f impl.Fleet) impl.Sight {
	x := impl.Sight{At: d.point(f.Side), Weight: min(d.weight(), 1000000), Time: int64(d.below(6))}
	if d.below(30) == 0 {
		x.Time = 1000000000 - int64(d.below(2))
	}
	var all []impl.Sight
	for _, list := range f.Sights {
		all = append(all, list...)
	}
	if len(all) > 0 && d.below(2) == 0 {
		at := all[d.below(len(all))].At
		for i := range at {
			at[i] = held(sum(at[i], product(d.unit()*f.Side, 0.4)))
		}
		if d.below(4) > 0 {
			x.At = at
		}
	}
	if _, code := cellOf(f.Side, x.At); code != impl.OK {
		x.At = impl.Vec{}
	}
	return x
}

// aFleet returns a valid fleet whose vehicles have at most so many sights.
func (d *dice) aFleet(most int) impl.Fleet {
	f := impl.Fleet{Side: d.aSide()}
	f.Gate = []float32{0, minusZero, held(f.Side / 2), f.Side, held(f.Side * 2), greatest}[d.below(6)]
	for range 1 + d.below(4) {
		f.Sights = append(f.Sights, nil)
		for range d.below(most + 1) {
			last := len(f.Sights) - 1
			f.Sights[last] = append(f.Sights[last], d.aSight(f))
		}
	}
	return f
}

// aDeed returns a deed that is often done.
func (d *dice) aDeed(f impl.Fleet) impl.Deed {
	vehicle := func() int64 { return int64(d.below(len(f.Sights))) }
	packet := func() int64 { return int64(d.below(1 + d.below(3))) }
	if d.below(12) == 0 {
		list := []int64{0, 1, 2, 3, 4, 5, 9, 10, 11, 100, 999}
		vehicle = func() int64 { return list[d.below(len(list))] }
		packet = vehicle
	}
	switch d.below(12) {
	case 0, 1, 2, 3:
		return impl.Deed{Kind: impl.DdSee, A: vehicle()}
	case 4, 5, 6:
		return impl.Deed{Kind: impl.DdSend, A: vehicle(), B: vehicle()}
	case 7:
		return impl.Deed{Kind: impl.DdDeliver, A: packet()}
	case 8:
		return impl.Deed{Kind: impl.DdCopy, A: packet()}
	case 9:
		return impl.Deed{Kind: impl.DdDrop, A: packet()}
	case 10:
		return impl.Deed{Kind: impl.DdSave, A: vehicle()}
	}
	return impl.Deed{Kind: impl.DdCrash, A: vehicle()}
}

// someDeeds returns at most so many deeds.
func (d *dice) someDeeds(f impl.Fleet, most int) []impl.Deed {
	deeds := make([]impl.Deed, d.below(most+1))
	for i := range deeds {
		deeds[i] = d.aDeed(f)
	}
	return deeds
}

// aQuestion returns a line of a script.
func (d *dice) aQuestion(f impl.Fleet) string {
	switch d.below(8) {
	case 0, 1:
		return fmt.Sprint("marks ", d.below(len(f.Sights)+1))
	case 2:
		return "agreed"
	case 3:
		list := []string{"", " ", "see", "see 0 ", "send 0", "send 0 1 2", "marks", "marks ", "marks 00", "marks -0", "marks 4", "marks 0 0", "Agreed", "agreed ", "agreed 0", "see 1000", "see 00", "save 0 0", "what", "ok", "yes"}
		return list[d.below(len(list))]
	}
	return textOfDeed(d.aDeed(f))
}

// aFleetScript returns a script with at most so many lines.
func (d *dice) aFleetScript(f impl.Fleet, most int) string {
	lines := make([]string, d.below(most+1))
	for i := range lines {
		lines[i] = d.aQuestion(f)
	}
	text := strings.Join(lines, "\n")
	if d.below(2) == 0 {
		text += "\n"
	}
	return text
}

// fleetLike returns a copy that shares nothing.
func fleetLike(f impl.Fleet) impl.Fleet {
	f.Sights = slices.Clone(f.Sights)
	for v, list := range f.Sights {
		f.Sights[v] = slices.Clone(list)
	}
	return f
}

func wantYard(t *testing.T, what string, got impl.Yard, done, code int64, want impl.Yard, wantedDone, wanted int64) {
	t.Helper()
	if !sameYard(got, want) {
		t.Errorf("%s: got %.1500s, want %.1500s", what, fmt.Sprint(got), fmt.Sprint(want))
	}
	wantIndex(t, what+", deeds that are done", done, code, wantedDone, wanted)
}

// yardAfter returns the yard behind deeds that are all done.
func yardAfter(t *testing.T, f impl.Fleet, deeds []impl.Deed) impl.Yard {
	t.Helper()
	y, done, code := impl.YardAfter(f, deeds)
	wantIndex(t, startOf("YardAfter ", textsOf(deeds)), done, code, int64(len(deeds)), impl.OK)
	return y
}

// wantDeeds holds FinishDeeds against texts.
func wantDeeds(t *testing.T, what string, f impl.Fleet, deeds []impl.Deed, want []string, wanted int64) []impl.Deed {
	t.Helper()
	got, code := impl.FinishDeeds(f, deeds)
	if texts := textsOf(got); !slices.Equal(texts, want) {
		t.Errorf("FinishDeeds, %s: got %v, want %v", what, texts, want)
	}
	wantCode(t, "FinishDeeds, "+what, code, wanted)
	return got
}

// wantRefused holds RefusedDeed against an index and a code.
func wantRefused(t *testing.T, what string, f impl.Fleet, deeds []impl.Deed, at, wrong, wanted int64) {
	t.Helper()
	got, gotWrong, code := impl.RefusedDeed(f, deeds)
	wantIndex(t, "RefusedDeed, "+what, got, code, at, wanted)
	wantCode(t, "RefusedDeed, the error, "+what, gotWrong, wrong)
}

func wantAgreed(t *testing.T, what string, f impl.Fleet, deeds []impl.Deed, want bool, wanted int64) {
	t.Helper()
	got, code := impl.AreAgreed(f, deeds)
	wantBool(t, "AreAgreed, "+what, got, want)
	wantCode(t, "AreAgreed, "+what, code, wanted)
}

func wantScript(t *testing.T, f impl.Fleet, text, want string, wanted int64) {
	t.Helper()
	got, code := impl.RunScript(f, text)
	if got != want {
		t.Errorf("RunScript %.300q: got %.300q, want %.300q", text, got, want)
	}
	wantCode(t, fmt.Sprintf("RunScript %.300q", text), code, wanted)
}
