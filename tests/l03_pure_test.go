package tests

import (
	"fmt"
	"slices"
	"strings"
	"testing"

	"loop.example/g01204/impl"
)

// filterArguments has something for every function of chapter 3.
type filterArguments struct {
	s, u  impl.State
	r     impl.Clue
	list  []impl.Clue
	a     [6][9]float32
	v     impl.Vec
	x, y  float32
	index int64
	text  string
}

// answers calls every function and writes all results, numbers by their bits.
func (g *filterArguments) answers() string {
	var out strings.Builder
	add := func(list ...any) { fmt.Fprintln(&out, list...) }
	rows := func(r impl.Root, code int64) {
		for _, row := range r {
			add(bitsOf(row[:]...))
		}
		add(code)
	}
	state := func(s impl.State, code int64) {
		add(bitsOf(s.X[:]...))
		rows(s.S, code)
	}
	clue := func(r impl.Clue, code int64) { add(bitsOf(r.H[:]...), bitsOf(r.Z, r.Noise), code) }
	number := func(a float32, code int64) { add(bitsOf(a), code) }
	place, speed := impl.PositionOf(g.s), impl.VelocityOf(g.s)
	add(impl.ValidState(g.s), impl.SameState(g.s, g.u), impl.ValidClue(g.r), impl.StateText(g.s), bitsOf(place[:]...), bitsOf(speed[:]...))
	state(impl.StateOf(g.s.X, g.u.X))
	rows(impl.CovarianceOf(g.s))
	number(impl.SpreadOf(g.s, g.index))
	rows(impl.LowerOf(g.a))
	state(impl.Predict(g.s, g.x, g.v))
	clue(impl.ClueAt(g.index, g.x, g.y))
	clue(impl.RangeClue(g.s, g.v, g.x, g.y))
	clue(impl.BearingClue(g.s, g.v, g.x, g.y))
	d, share, code := impl.DifferenceOf(g.s, g.r)
	add(bitsOf(d, share), code)
	number(impl.GateOf(g.s, g.r))
	state(impl.Update(g.s, g.r))
	next, taken, code := impl.UpdateGated(g.s, g.r, g.x)
	add(taken)
	state(next, code)
	state(impl.UpdateAll(g.s, g.list))
	rows(impl.InverseRoot(g.s))
	state(impl.FuseStates(g.s, g.u))
	number(impl.DistanceBetween(g.s, g.u))
	state(impl.ReadState(g.text))
	return out.String()
}

// anyArguments returns arguments of which one in four has a number of any kind somewhere.
func (d *dice) anyArguments(texts []string) filterArguments {
	g := filterArguments{s: d.aState(), u: d.aState(), r: d.aClue(), a: d.aTable(d.numbers()), v: vecFrom(d.numbers()), x: d.numbers()(), y: d.unit()}
	g.index, g.text = int64(d.below(8))-1, texts[d.below(len(texts))]
	for range d.below(5) {
		g.list = append(g.list, d.aClue())
	}
	if d.below(4) == 0 {
		g.x, g.y, g.v[d.below(3)], g.a[d.below(6)][d.below(9)] = d.any(), d.any(), d.any(), d.any()
		g.s.S[d.below(6)][d.below(6)], g.u.X[d.below(6)], g.r.H[d.below(6)] = d.any(), d.any(), d.any()
	}
	return g
}

func TestEqualStatesHaveEqualResults(t *testing.T) {
	d := &dice{seed: 90}
	texts := []string{"", textOfState, "\xff", strings.Repeat("\n", 7), impl.StateText(impl.State{})}
	list := make([]filterArguments, 2000)
	first := make([]string, len(list))
	for i := range list {
		list[i] = d.anyArguments(texts)
		first[i] = list[i].answers()
	}
	for i := len(list) - 1; i >= 0; i-- { // in another order, so that a state that is kept would be seen
		if got := list[i].answers(); got != first[i] {
			t.Fatalf("other results for equal arguments:\n%s\n%s", first[i], got)
		}
	}
}

func TestCluesAreNotChanged(t *testing.T) {
	d := &dice{seed: 91}
	for range 500 {
		room := make([]impl.Clue, 12)
		for i := range room {
			room[i] = d.aPlainClue()
		}
		before := slices.Clone(room)
		s := d.aPlainState()
		first, code := impl.UpdateAll(s, room[2:7])
		wantCode(t, "UpdateAll", code, impl.OK)
		for i := range room {
			wantClueCode(t, "a clue, or what lies behind the clues", room[i], 0, before[i], 0)
		}
		again, code := impl.UpdateAll(s, before[2:7:7])
		wantStateCode(t, "UpdateAll of equal clues", again, code, first, impl.OK)
	}
}

// TestEverySpecialNumberOfFilters puts each special number into each place: nothing may panic.
func TestEverySpecialNumberOfFilters(t *testing.T) {
	d := &dice{seed: 92}
	for _, a := range specials() {
		for i := range 6 {
			for j := range 6 {
				g := filterArguments{s: d.aPlainState(), u: d.aPlainState(), r: d.aPlainClue(), a: d.aTable(d.unit), v: vecFrom(d.unit), x: 1, y: 1, index: int64(j), text: textOfState}
				g.s.S[i][j], g.u.S[j][i], g.a[i][j+i/2], g.r.H[j], g.v[i/2] = a, a, a, a, a
				g.answers()
				g.u = d.aPlainState()
				g.s, g.r, g.v = g.u, d.aPlainClue(), vecFrom(d.unit)
				g.x, g.y, g.u.X[i], g.r.Z, g.r.Noise = a, a, a, a, a
				g.list = []impl.Clue{g.r, d.aPlainClue()}
				g.answers()
				g.s.X[i], g.u.X[i], g.r = a, 0, d.aPlainClue()
				g.answers()
			}
		}
	}
}
