package tests

import (
	"fmt"
	"slices"
	"strings"
	"testing"

	"loop.example/g01204/impl"
)

// turnAnswers calls every function of chapter 2 and writes all results, numbers by their bits.
func turnAnswers(p, q impl.Turn, m impl.Mat, u, v impl.Vec, a, b float32, rates []impl.Vec, text string) string {
	var out strings.Builder
	add := func(list ...any) { fmt.Fprintln(&out, list...) }
	turn := func(q impl.Turn, code int64) { add(bitsOf(q[:]...), code) }
	add(bitsOf(impl.SineOf(a), impl.CosineOf(a), impl.AngleOf(a, b), impl.WrapAngle(a), impl.SizeOfTurn(q), impl.AngleBetween(p, q), impl.HeadingOf(q)))
	add(impl.IsFiniteTurn(q), impl.SameTurn(p, q), impl.TurnText(q))
	turn(impl.UnitTurn(), 0)
	turn(impl.MulTurns(p, q), 0)
	turn(impl.BackTurn(q), 0)
	turn(impl.TurnOfHeading(a), 0)
	turn(impl.NormTurn(q))
	turn(impl.TurnAbout(u, a))
	turn(impl.TurnOfMatrix(m))
	turn(impl.MixTurns(p, q, a))
	turn(impl.StepTurn(q, u, a))
	turn(impl.StepTurns(q, rates, a))
	turn(impl.ReadTurn(text))
	matrix, turned := impl.TurnMatrix(q), impl.TurnVec(q, v)
	add(bitsOf(matrix[0][:]...), bitsOf(matrix[1][:]...), bitsOf(matrix[2][:]...), bitsOf(turned[:]...))
	angle, code := impl.AngleTo(u, v)
	add(bitsOf(angle), code)
	return out.String()
}

func TestEqualTurnsHaveEqualResults(t *testing.T) {
	d := &dice{seed: 61}
	texts := []string{"", "3f800000", "\xff", strings.Repeat("7fc00000 ", 4), impl.TurnText(impl.Turn{nan, 1, minusZero, infinite})}
	type arguments struct {
		p, q  impl.Turn
		m     impl.Mat
		u, v  impl.Vec
		a, b  float32
		rates []impl.Vec
		text  string
	}
	var list []arguments
	var first []string
	for i := range 2000 {
		g := arguments{turnFrom(d.any), turnFrom(d.any), matFrom(d.any), vecFrom(d.any), vecFrom(d.any), d.any(), d.any(), nil, texts[i%len(texts)]}
		for range d.below(4) {
			g.rates = append(g.rates, vecFrom(d.unit))
		}
		list = append(list, g)
		first = append(first, turnAnswers(g.p, g.q, g.m, g.u, g.v, g.a, g.b, g.rates, g.text))
	}
	for i := len(list) - 1; i >= 0; i-- { // in another order, so that a state that is kept would be seen
		g := list[i]
		if got := turnAnswers(g.p, g.q, g.m, g.u, g.v, g.a, g.b, g.rates, g.text); got != first[i] {
			t.Fatalf("other results for equal arguments:\n%s\n%s", first[i], got)
		}
	}
}

func TestRatesAreNotChanged(t *testing.T) {
	d := &dice{seed: 62}
	for range 500 {
		room := make([]impl.Vec, 12)
		for i := range room {
			room[i] = vecFrom(d.unit)
		}
		before := slices.Clone(room)
		q := d.aUnit()
		first, code := impl.StepTurns(q, room[2:7], 0.5)
		wantCode(t, "StepTurns", code, impl.OK)
		for i := range room {
			wantVec(t, "a rate, or what lies behind the rates", room[i], before[i])
		}
		again, code := impl.StepTurns(q, before[2:7:7], 0.5)
		wantTurnCode(t, "StepTurns of equal rates", again, code, first, impl.OK)
	}
}

// TestEverySpecialNumberOfTurns puts each special number into each place: nothing may panic.
func TestEverySpecialNumberOfTurns(t *testing.T) {
	for _, a := range specials() {
		for i := range 9 {
			q, m := impl.Turn{0.5, -0.5, 0.5, 0.5}, impl.Mat{{-4, 1, 2}, {1, 5, 3}, {2, 3, -6}}
			q[i%4], m[i/3][i%3] = a, a
			turnAnswers(q, impl.BackTurn(q), m, m[i/3], m[i%3], a, 1, []impl.Vec{m[0], m[1], m[2]}, impl.TurnText(q))
		}
	}
}
