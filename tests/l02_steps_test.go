package tests

import (
	"math"
	"testing"

	"loop.example/g01204/impl"
)

func betweenOf(p, q impl.Turn) float32 {
	r := productOf(impl.Turn{p[0], -p[1], -p[2], -p[3]}, q)
	axis := impl.Vec{r[1], r[2], r[3]}
	return product(2, angleOf(root(dotOf(axis, axis)), float32(math.Abs(float64(r[0])))))
}

func mixOf(p, q impl.Turn, share float32) (impl.Turn, int64) {
	sign := float32(1)
	if dotOfTurns(p, q) < 0 {
		sign = -1
	}
	for i := range p {
		p[i] = sum(product(p[i], difference(1, share)), product(sign*q[i], share))
	}
	return normOf(p)
}

func stepOf(q impl.Turn, rate impl.Vec, time float32) (impl.Turn, int64) {
	length := root(dotOf(rate, rate))
	if length == 0 {
		return normOf(q)
	}
	angle := product(length, time)
	if !isFinite(length) || !isFinite(angle) {
		return impl.Turn{}, impl.ErrState
	}
	step := impl.Turn{cosineOf(product(0.5, angle))}
	for i, a := range rate {
		step[i+1] = product(quotient(a, length), sineOf(product(0.5, angle)))
	}
	return normOf(productOf(q, step))
}

func TestAnglesBetweenTurns(t *testing.T) {
	one := impl.UnitTurn()
	wantNumber(t, "itself", impl.AngleBetween(one, one), 0)
	wantNumber(t, "the opposite numbers", impl.AngleBetween(one, impl.Turn{-1, 0, 0, 0}), 0)
	wantNumber(t, "half a turn", impl.AngleBetween(one, impl.Turn{0, 0, 1, 0}), impl.Pi)
	wantNumber(t, "a quarter", impl.AngleBetween(impl.Turn{1, 0, 0, 1}, one), impl.Pi/2)
	wantNumber(t, "nothing", impl.AngleBetween(impl.Turn{}, one), 0)
	wantNumber(t, "too great", impl.AngleBetween(impl.Turn{1e30, 0, 0, 0}, impl.Turn{1e30, 0, 0, 0}), nan)
	wantNumber(t, "a length that is too great", impl.AngleBetween(one, impl.Turn{1, 1e20, 0, 0}), nan)
	wantNumber(t, "NaN", impl.AngleBetween(one, impl.Turn{nan, 0, 0, 0}), nan)
	wantNumber(t, "infinite", impl.AngleBetween(impl.Turn{0, infinite, 0, 0}, one), nan)
	d := &dice{seed: 41}
	for range 10000 {
		p, q := turnFrom(d.any), turnFrom(d.any)
		wantNumber(t, "AngleBetween", impl.AngleBetween(p, q), betweenOf(p, q))
		p, q = d.aUnit(), d.aUnit()
		wantNumber(t, "AngleBetween", impl.AngleBetween(p, q), betweenOf(p, q))
		wantNear(t, "and back", impl.AngleBetween(q, p), float64(impl.AngleBetween(p, q)), 1e-6)
		angle, axis := d.unit()*3, impl.Vec{q[0], q[1], q[2]}
		step, code := impl.TurnAbout(axis, angle)
		wantCode(t, "TurnAbout", code, impl.OK)
		wantNear(t, "a turn about an axis", impl.AngleBetween(p, impl.MulTurns(p, step)), math.Abs(float64(angle)), 2e-6)
	}
}

func TestMixesOfTurns(t *testing.T) {
	h := root(0.5)
	one, i := impl.UnitTurn(), impl.Turn{0, 1, 0, 0}
	mixed := func(what string, p, q impl.Turn, share float32, want impl.Turn) {
		t.Helper()
		got, code := impl.MixTurns(p, q, share)
		for n := range got {
			wantNear(t, what, got[n], float64(want[n]), 1e-7)
		}
		wantCode(t, what, code, impl.OK)
		exact, _ := mixOf(p, q, share)
		wantTurn(t, what, got, exact)
	}
	mixed("the sum of the products is 0", one, i, 0.5, impl.Turn{h, h, 0, 0})
	mixed("the sum of the products is -0", one, impl.Turn{minusZero, -1, minusZero, minusZero}, 0.5, impl.Turn{h, -h, 0, 0})
	mixed("less than 0", impl.Turn{h, h, 0, 0}, impl.Turn{-1, 0, 0, 0}, 1, one)
	mixed("hardly less than 0", impl.Turn{tiniest, 1, 0, 0}, impl.Turn{-1, 0, 1, 0}, 0.5, impl.Turn{1 / root(3), 1 / root(3), -1 / root(3), 0})
	mixed("greater than 0", impl.Turn{h, h, 0, 0}, one, 1, one)
	mixed("NaN", impl.Turn{1e20, 1e20, 0, 0}, impl.Turn{1e19, -1e19, 0, 0}, 1, impl.Turn{h, -h, 0, 0})
	mixed("nothing of the other one", one, i, 0, one)
	mixed("more than all of it", one, i, 2, impl.Turn{-1 / root(5), 2 / root(5), 0, 0})
	for _, c := range []struct {
		p, q  impl.Turn
		share float32
	}{
		{impl.Turn{}, impl.Turn{}, 0.5}, {one, one, nan}, {one, one, infinite}, {one, impl.Turn{infinite}, 0.5}, {impl.Turn{nan}, one, 1},
		{one, i, 1e30}, {impl.Turn{1e20, 0, 0, 0}, one, 0.5}, {one, impl.Turn{0.5, 0, 0, 0}, 2},
	} {
		got, code := impl.MixTurns(c.p, c.q, c.share)
		want, wanted := mixOf(c.p, c.q, c.share)
		wantTurnCode(t, "MixTurns", got, code, want, wanted)
	}
	q, code := impl.MixTurns(one, impl.Turn{0.5, 0, 0, 0}, 2)
	wantTurnCode(t, "of size 0", q, code, impl.Turn{}, impl.ErrState)
	q, code = impl.MixTurns(one, i, nan)
	wantTurnCode(t, "a share that is NaN", q, code, impl.Turn{}, impl.ErrState)
	q, code = impl.MixTurns(one, i, 1e30)
	wantTurnCode(t, "a share that is too great", q, code, impl.Turn{}, impl.ErrState)
	d := &dice{seed: 42}
	for range 20000 {
		p, q, share := turnFrom(d.any), turnFrom(d.any), d.any()
		got, code := impl.MixTurns(p, q, share)
		want, wanted := mixOf(p, q, share)
		wantTurnCode(t, "MixTurns", got, code, want, wanted)
		p, q, share = d.aUnit(), d.aUnit(), d.unit()
		got, code = impl.MixTurns(p, q, share)
		want, wanted = mixOf(p, q, share)
		wantTurnCode(t, "MixTurns", got, code, want, wanted)
	}
}

func TestStepsOfTurns(t *testing.T) {
	one := impl.UnitTurn()
	for _, c := range []struct {
		what string
		q    impl.Turn
		rate impl.Vec
		time float32
	}{
		{"no size", impl.Turn{}, impl.Vec{}, 1}, {"no size, turned", impl.Turn{}, impl.Vec{1, 0, 0}, 1}, {"NaN", impl.Turn{nan}, impl.Vec{}, 1},
		{"too great", impl.Turn{1e20, 0, 0, 0}, impl.Vec{0, 1, 0}, 0}, {"an infinite rate", one, impl.Vec{0, infinite, 0}, 0}, {"no rate", one, impl.Vec{0, 0, nan}, 1},
		{"a rate whose length is too great", one, impl.Vec{1e20, 0, 0}, 0}, {"no time", one, impl.Vec{0, 0, 1}, nan}, {"an infinite time", one, impl.Vec{0, 0, 1}, -infinite},
		{"an angle that is too great", one, impl.Vec{0, 1e19, 0}, greatest},
	} {
		q, code := impl.StepTurn(c.q, c.rate, c.time)
		wantTurnCode(t, c.what, q, code, impl.Turn{}, impl.ErrState)
		q, code = impl.StepTurns(c.q, []impl.Vec{c.rate}, c.time)
		wantTurnCode(t, c.what, q, code, impl.Turn{}, impl.ErrState)
	}
	for _, rate := range []impl.Vec{{}, {minusZero, minusZero, 0}, {1e-30, 0, tiniest}} {
		for _, time := range []float32{0, 1, nan, infinite} {
			q, code := impl.StepTurn(impl.Turn{0, 3, minusZero, 4}, rate, time)
			wantTurnCode(t, "a length of 0", q, code, impl.Turn{0, quotient(3, 5), minusZero, quotient(4, 5)}, impl.OK)
		}
	}
	q, code := impl.StepTurn(impl.Turn{2, 0, 0, 0}, impl.Vec{0, 0, 4}, 0)
	wantTurnCode(t, "a time of 0", q, code, one, impl.OK)
	d := &dice{seed: 43}
	for range 20000 {
		q, rate, time := turnFrom(d.any), vecFrom(d.any), d.any()
		got, code := impl.StepTurn(q, rate, time)
		want, wanted := stepOf(q, rate, time)
		wantTurnCode(t, "StepTurn", got, code, want, wanted)
		q, rate, time = d.aUnit(), vecFrom(d.unit), d.unit()
		got, code = impl.StepTurn(q, rate, time)
		want, wanted = stepOf(q, rate, time)
		wantTurnCode(t, "StepTurn", got, code, want, wanted)
		wantNear(t, "the size", impl.SizeOfTurn(got), 1, 3e-7)
		wantNear(t, "the angle", impl.AngleBetween(q, got), math.Abs(float64(impl.LengthOf(rate)*time)), 2e-6)
	}
}

func TestManySteps(t *testing.T) {
	d := &dice{seed: 44}
	for n := range 120 {
		q, time := turnFrom(d.unit), d.unit()
		rates := make([]impl.Vec, n, n+5)
		for i := range rates {
			rates[i] = vecFrom(d.unit)
			if d.below(5) == 0 {
				rates[i] = impl.Vec{}
			}
		}
		got, code := impl.StepTurns(q, rates, time)
		want := q
		for _, rate := range rates {
			want, _ = stepOf(want, rate, time)
		}
		wantTurnCode(t, "StepTurns", got, code, want, impl.OK)
		for _, cut := range []int{0, n / 3, n} {
			half, one := impl.StepTurns(q, rates[:cut], time)
			whole, two := impl.StepTurns(half, rates[cut:], time)
			wantTurnCode(t, "in two parts", whole, one+two, want, impl.OK)
		}
		if n > 0 {
			wantNear(t, "the size", impl.SizeOfTurn(got), 1, 3e-7)
		}
		back := q
		for i := n - 1; i >= 0; i-- {
			back, _ = impl.StepTurn(got, impl.ScaleVec(rates[i], -1), time)
			got = back
		}
		start, _ := normOf(q)
		wantNear(t, "there and back", impl.AngleBetween(start, got), 0, 2e-5)
	}
}

func TestNumberOfSteps(t *testing.T) {
	odd := impl.Turn{nan, 3, minusZero, infinite}
	q, code := impl.StepTurns(odd, nil, nan)
	wantTurnCode(t, "no rate", q, code, odd, impl.OK) // nothing is normed either
	q, code = impl.StepTurns(impl.Turn{}, []impl.Vec{}, 1)
	wantTurnCode(t, "no rate", q, code, impl.Turn{}, impl.OK)
	rates := make([]impl.Vec, impl.MaxTurnSteps+1)
	for i := range rates {
		rates[i] = impl.Vec{0, 0, 1}
	}
	want := impl.UnitTurn()
	for range impl.MaxTurnSteps {
		want, _ = stepOf(want, impl.Vec{0, 0, 1}, 0.001)
	}
	q, code = impl.StepTurns(impl.UnitTurn(), rates[:impl.MaxTurnSteps], 0.001)
	wantTurnCode(t, "as many as may be", q, code, want, impl.OK)
	wantNear(t, "their heading", impl.HeadingOf(q), 1, 1e-4)
	q, code = impl.StepTurns(impl.UnitTurn(), rates, 0.001)
	wantTurnCode(t, "one more", q, code, impl.Turn{}, impl.ErrLimit)
	q, code = impl.StepTurns(impl.Turn{}, rates, nan)
	wantTurnCode(t, "one more, and no turn", q, code, impl.Turn{}, impl.ErrLimit)
	rates[impl.MaxTurnSteps-1] = impl.Vec{nan, 0, 0}
	q, code = impl.StepTurns(impl.UnitTurn(), rates[:impl.MaxTurnSteps], 0.001)
	wantTurnCode(t, "the last one NaN", q, code, impl.Turn{}, impl.ErrState)
	q, code = impl.StepTurns(impl.UnitTurn(), make([]impl.Vec, 1000000), 1)
	wantTurnCode(t, "very many", q, code, impl.Turn{}, impl.ErrLimit)
	q, code = impl.StepTurns(impl.UnitTurn(), []impl.Vec{{1, 0, 0}, {infinite, 0, 0}, {1, 0, 0}}, 1)
	wantTurnCode(t, "one between that is infinite", q, code, impl.Turn{}, impl.ErrState)
}

func TestHeadings(t *testing.T) {
	wantTurn(t, "TurnOfHeading 0", impl.TurnOfHeading(0), impl.UnitTurn())
	wantTurn(t, "TurnOfHeading -0", impl.TurnOfHeading(minusZero), impl.UnitTurn())
	wantTurn(t, "TurnOfHeading infinite", impl.TurnOfHeading(infinite), impl.Turn{nan, 0, 0, nan})
	wantTurn(t, "TurnOfHeading NaN", impl.TurnOfHeading(otherNaN), impl.Turn{nan, 0, 0, nan})
	wantTurn(t, "TurnOfHeading the tiniest", impl.TurnOfHeading(-tiniest), impl.UnitTurn()) // half of it is -0
	wantNumber(t, "of UnitTurn", impl.HeadingOf(impl.UnitTurn()), 0)
	wantNumber(t, "of half a turn", impl.HeadingOf(impl.Turn{0, 0, 0, 1}), impl.Pi)
	wantNumber(t, "of half a turn, upside down", impl.HeadingOf(impl.Turn{0, 0, 1, 0}), impl.Pi)
	wantNumber(t, "upside down", impl.HeadingOf(impl.Turn{0, 1, 0, 0}), 0)
	wantNumber(t, "of NaN", impl.HeadingOf(impl.Turn{nan}), nan)
	wantNumber(t, "of great numbers", impl.HeadingOf(impl.Turn{0, 0, 1e20, 0}), nan)
	d := &dice{seed: 45}
	for range 10000 {
		q, a := turnFrom(d.any), d.anAngle()
		m := matrixOf(q)
		wantNumber(t, "HeadingOf", impl.HeadingOf(q), angleOf(m[1][0], m[0][0]))
		q = d.aUnit()
		m = matrixOf(q)
		wantNumber(t, "HeadingOf", impl.HeadingOf(q), angleOf(m[1][0], m[0][0]))
		wantTurn(t, "TurnOfHeading", impl.TurnOfHeading(a), impl.Turn{cosineOf(product(0.5, a)), 0, 0, sineOf(product(0.5, a))})
		a = d.unit() * 3.1
		wantNear(t, "HeadingOf TurnOfHeading", impl.HeadingOf(impl.TurnOfHeading(a)), float64(a), 1e-6)
	}
}

func TestAnglesOfWays(t *testing.T) {
	from := impl.Vec{1, 2, nan}
	for _, c := range []struct {
		to   impl.Vec
		want float32
		code int64
	}{
		{impl.Vec{1, 2, 9}, 0, impl.ErrState}, {impl.Vec{2, 2, 0}, 0, impl.OK}, {impl.Vec{0, 2, 0}, impl.Pi, impl.OK},
		{impl.Vec{1, 3, 0}, impl.Pi / 2, impl.OK}, {impl.Vec{1, -3, 0}, -impl.Pi / 2, impl.OK},
		{impl.Vec{2, 3, 0}, math.Float32frombits(0x3f490fdb), impl.OK}, {impl.Vec{1 + 1e-9, 2, 5}, 0, impl.ErrState},
		{impl.Vec{nan, 2, 0}, nan, impl.OK}, {impl.Vec{1, infinite, 0}, nan, impl.OK},
	} {
		got, code := impl.AngleTo(from, c.to)
		wantNumber(t, "AngleTo", got, c.want)
		wantCode(t, "AngleTo", code, c.code)
	}
	a, code := impl.AngleTo(impl.Vec{0, minusZero, 1}, impl.Vec{minusZero, 0, 2})
	wantNumber(t, "0 and -0", a, 0)
	wantCode(t, "0 and -0", code, impl.ErrState)
	a, code = impl.AngleTo(impl.Vec{infinite, 0, 0}, impl.Vec{infinite, 0, 0})
	wantNumber(t, "from infinite to infinite", a, nan)
	wantCode(t, "from infinite to infinite", code, impl.OK)
	a, code = impl.AngleTo(impl.Vec{-greatest, 0, 0}, impl.Vec{greatest, 0, 0})
	wantNumber(t, "a way that is too long", a, nan)
	wantCode(t, "a way that is too long", code, impl.OK)
	d := &dice{seed: 46}
	for range 10000 {
		from, to := vecFrom(d.any), vecFrom(d.any)
		if d.below(2) == 0 {
			from, to = vecFrom(d.unit), vecFrom(d.unit)
		}
		a, code := impl.AngleTo(from, to)
		x, y := difference(to[0], from[0]), difference(to[1], from[1])
		wantNumber(t, "AngleTo", a, angleOf(y, x))
		wantBool(t, "AngleTo", code == impl.ErrState, x == 0 && y == 0)
	}
}
