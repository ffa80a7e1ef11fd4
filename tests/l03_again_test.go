package tests

import (
	"math"
	"testing"

	"loop.example/g01204/impl"
)

// Chapter 3 reckoned once more, index by index, with the operations that are
// rounded in numbers_test.go.

// along sums what stands at the indices from first to last, from left to right.
func along(first, last int, of func(k int) float32) float32 {
	s := of(first)
	for k := first + 1; k <= last; k++ {
		s = sum(s, of(k))
	}
	return s
}

// finiteNumbers reports whether all numbers are finite.
func finiteNumbers(list ...float32) bool {
	for _, a := range list {
		if !isFinite(a) {
			return false
		}
	}
	return true
}

func finiteRoot(r impl.Root) bool {
	for i := range 6 {
		if !finiteNumbers(r[i][:]...) {
			return false
		}
	}
	return true
}

func validState(s impl.State) bool {
	for i := range 6 {
		for j := i + 1; j < 6; j++ {
			if s.S[i][j] != 0 {
				return false
			}
		}
		if s.S[i][i] < 0 {
			return false
		}
	}
	return finiteNumbers(s.X[:]...) && finiteRoot(s.S)
}

func validClue(r impl.Clue) bool {
	return finiteNumbers(r.H[:]...) && finiteNumbers(r.Z, r.Noise) && r.Noise > 0
}

func covarianceOf(s impl.State) impl.Root {
	var p impl.Root
	for i := range 6 {
		for j := range 6 {
			p[i][j] = along(0, min(i, j), func(k int) float32 { return product(s.S[i][k], s.S[j][k]) })
		}
	}
	return p
}

func lowerOf(a [6][9]float32) (impl.Root, int64) {
	for i := range 6 {
		if !finiteNumbers(a[i][:]...) {
			return impl.Root{}, impl.ErrInvalid
		}
	}
	for i := range 6 {
		for j := i + 1; j < 9; j++ {
			p, q := a[i][i], a[i][j]
			if q == 0 {
				continue
			}
			r := root(sum(product(p, p), product(q, q)))
			if r == 0 {
				return impl.Root{}, impl.ErrState
			}
			c, d := quotient(p, r), quotient(q, r)
			for k := i; k < 6; k++ {
				u, v := a[k][i], a[k][j]
				a[k][i], a[k][j] = sum(product(c, u), product(d, v)), difference(product(c, v), product(d, u))
			}
			a[i][j] = 0
		}
	}
	var low impl.Root
	for i := range 6 {
		for j := range i + 1 {
			low[i][j] = a[i][j]
			if a[j][j] < 0 {
				low[i][j] = -a[i][j]
			}
		}
	}
	if !finiteRoot(low) {
		return impl.Root{}, impl.ErrState
	}
	return low, impl.OK
}

// withLower returns the state with x and the root of a table, which may have
// numbers that are not finite.
func withLower(x impl.Six, a [6][9]float32) (impl.State, int64) {
	low, code := lowerOf(a)
	if code != impl.OK || !finiteNumbers(x[:]...) {
		return impl.State{}, impl.ErrState
	}
	return impl.State{X: x, S: low}, impl.OK
}

func predicted(s impl.State, time float32, noise impl.Vec) (impl.State, int64) {
	if !validState(s) {
		return impl.State{}, impl.ErrInvalid
	}
	for _, a := range []float32{time, noise[0], noise[1], noise[2]} {
		if !isFinite(a) || a < 0 {
			return impl.State{}, impl.ErrRange
		}
	}
	x := s.X
	var a [6][9]float32
	for i := range 3 {
		x[i] = sum(s.X[i], product(s.X[i+3], time))
		for k := range 6 {
			a[i][k] = sum(s.S[i][k], product(time, s.S[i+3][k]))
			a[i+3][k] = s.S[i+3][k]
		}
		a[3+i][6+i] = product(noise[i], root(time))
	}
	return withLower(x, a)
}

func seenBy(h, x impl.Six) float32 {
	return along(0, 5, func(k int) float32 { return product(h[k], x[k]) })
}

func rangeClue(s impl.State, from impl.Vec, distance, noise float32) (impl.Clue, int64) {
	if !validState(s) {
		return impl.Clue{}, impl.ErrInvalid
	}
	var d impl.Vec
	for i := range 3 {
		d[i] = difference(s.X[i], from[i])
	}
	length := root(along(0, 2, func(k int) float32 { return product(d[k], d[k]) }))
	if length == 0 || !isFinite(length) {
		return impl.Clue{}, impl.ErrState
	}
	r := impl.Clue{Noise: noise}
	for i := range 3 {
		r.H[i] = quotient(d[i], length)
	}
	r.Z = sum(difference(distance, length), seenBy(r.H, s.X))
	if !validClue(r) {
		return impl.Clue{}, impl.ErrInvalid
	}
	return r, impl.OK
}

func bearingClue(s impl.State, from impl.Vec, bearing, noise float32) (impl.Clue, int64) {
	if !validState(s) {
		return impl.Clue{}, impl.ErrInvalid
	}
	x, y := difference(s.X[0], from[0]), difference(s.X[1], from[1])
	n := sum(product(x, x), product(y, y))
	if n == 0 || !isFinite(n) {
		return impl.Clue{}, impl.ErrState
	}
	r := impl.Clue{H: impl.Six{quotient(-y, n), quotient(x, n)}, Noise: noise}
	r.Z = sum(wrapOf(difference(bearing, angleOf(y, x))), seenBy(r.H, s.X))
	if !validClue(r) {
		return impl.Clue{}, impl.ErrInvalid
	}
	return r, impl.OK
}

// sightOf returns the numbers f, the difference and the share of a clue.
func sightOf(s impl.State, r impl.Clue) (impl.Six, float32, float32) {
	var f impl.Six
	for k := range 6 {
		f[k] = along(k, 5, func(i int) float32 { return product(s.S[i][k], r.H[i]) })
	}
	share := along(0, 6, func(k int) float32 {
		if k == 6 {
			return product(r.Noise, r.Noise)
		}
		return product(f[k], f[k])
	})
	return f, difference(r.Z, seenBy(r.H, s.X)), share
}

func gateOf(s impl.State, r impl.Clue) (float32, int64) {
	_, d, share := sightOf(s, r)
	gate := quotient(product(d, d), share)
	switch {
	case !validState(s) || !validClue(r):
		return 0, impl.ErrInvalid
	case !isFinite(gate):
		return 0, impl.ErrState
	}
	return gate, impl.OK
}

func updated(s impl.State, r impl.Clue) (impl.State, int64) {
	if !validState(s) || !validClue(r) {
		return impl.State{}, impl.ErrInvalid
	}
	f, d, share := sightOf(s, r)
	b := quotient(1, sum(1, root(quotient(product(r.Noise, r.Noise), share))))
	e := quotient(b, share)
	x := s.X
	var a [6][9]float32
	for i := range 6 {
		g := along(0, i, func(k int) float32 { return product(s.S[i][k], f[k]) })
		x[i] = sum(x[i], product(g, quotient(d, share)))
		for k := range 6 {
			a[i][k] = difference(s.S[i][k], product(product(g, e), f[k]))
		}
	}
	return withLower(x, a)
}

func inverseOf(s impl.State) (impl.Root, int64) {
	if !validState(s) {
		return impl.Root{}, impl.ErrInvalid
	}
	var r impl.Root
	for j := range 6 {
		if s.S[j][j] == 0 {
			return impl.Root{}, impl.ErrState
		}
		r[j][j] = quotient(1, s.S[j][j])
		for i := j + 1; i < 6; i++ {
			r[i][j] = quotient(-along(j, i-1, func(k int) float32 { return product(s.S[i][k], r[k][j]) }), s.S[i][i])
		}
	}
	if !finiteRoot(r) {
		return impl.Root{}, impl.ErrState
	}
	return r, impl.OK
}

func fused(s, t impl.State) (impl.State, int64) {
	if !validState(s) || !validState(t) {
		return impl.State{}, impl.ErrInvalid
	}
	r, code := inverseOf(t)
	for i := 0; i < 6 && code == impl.OK; i++ {
		s, code = updated(s, impl.Clue{H: r[i], Z: seenBy(r[i], t.X), Noise: 1})
	}
	if code != impl.OK {
		return impl.State{}, impl.ErrState
	}
	return s, impl.OK
}

func distanceOf(s, t impl.State) (float32, int64) {
	if !validState(s) || !validState(t) {
		return 0, impl.ErrInvalid
	}
	r, code := inverseOf(t)
	if code != impl.OK {
		return 0, code
	}
	of := func(i int) float32 {
		a := along(0, 5, func(k int) float32 { return product(r[i][k], difference(s.X[k], t.X[k])) })
		return product(a, a)
	}
	far := root(along(0, 5, of))
	if !isFinite(far) {
		return 0, impl.ErrState
	}
	return far, impl.OK
}

func sixFrom(of func() float32) impl.Six {
	return impl.Six{of(), of(), of(), of(), of(), of()}
}

// finite returns a finite number of any kind.
func (d *dice) finite() float32 {
	for {
		if a := d.any(); isFinite(a) {
			return a
		}
	}
}

// zero returns 0 or -0.
func (d *dice) zero() float32 { return float32(math.Copysign(0, float64(d.unit()))) }

// often returns numbers of a kind, and one time in three 0 or -0.
func (d *dice) often(of func() float32) func() float32 {
	return func() float32 {
		if d.below(3) == 0 {
			return d.zero()
		}
		return of()
	}
}

// numbers returns what makes numbers of one kind: of size 1, nearly, with zeros
// among them, all great, all small, or of any kind.
func (d *dice) numbers() func() float32 {
	switch d.below(5) {
	case 0:
		return d.often(d.unit)
	case 1:
		return d.often(func() float32 { return d.whole(4) })
	case 2:
		by := float32(math.Ldexp(1, d.below(160)-80))
		return func() float32 { return d.unit() * by }
	case 3:
		return d.often(d.finite)
	}
	return d.unit
}

// aState returns a valid state.
func (d *dice) aState() impl.State {
	s := impl.State{X: sixFrom(d.numbers())}
	of := d.numbers()
	for i := range 6 {
		for j := range 6 {
			s.S[i][j] = of()
			if j > i {
				s.S[i][j] = d.zero()
			}
		}
		if s.S[i][i] < 0 {
			s.S[i][i] = -s.S[i][i]
		}
	}
	return s
}

// aPlainState returns one whose numbers are of size 1, nearly, and whose root has an inverse.
func (d *dice) aPlainState() impl.State {
	s := impl.State{X: sixFrom(d.unit)}
	for i := range 6 {
		for j := range i {
			s.S[i][j] = d.unit() / 2
		}
		s.S[i][i] = 1.25 + d.unit()
	}
	return s
}

// aClue returns a valid clue.
func (d *dice) aClue() impl.Clue {
	r := impl.Clue{H: sixFrom(d.numbers()), Z: d.numbers()(), Noise: d.numbers()()}
	switch {
	case r.Noise < 0:
		r.Noise = -r.Noise
	case r.Noise == 0:
		r.Noise = 0.5
	}
	return r
}

func (d *dice) aPlainClue() impl.Clue {
	return impl.Clue{H: sixFrom(d.unit), Z: d.unit(), Noise: 0.75 + d.unit()/2}
}

func sameSix(a, b impl.Six) bool {
	for i := range 6 {
		if !same(a[i], b[i]) {
			return false
		}
	}
	return true
}

func sameRoot(a, b impl.Root) bool {
	for i := range 6 {
		if !sameSix(a[i], b[i]) {
			return false
		}
	}
	return true
}

func wantRootCode(t *testing.T, what string, got impl.Root, code int64, want impl.Root, wanted int64) {
	t.Helper()
	if !sameRoot(got, want) {
		t.Errorf("%s: got %v, want %v", what, got, want)
	}
	wantCode(t, what, code, wanted)
}

func wantState(t *testing.T, what string, got, want impl.State) {
	t.Helper()
	if !sameSix(got.X, want.X) || !sameRoot(got.S, want.S) {
		t.Errorf("%s: got %v, want %v", what, got, want)
	}
}

func wantStateCode(t *testing.T, what string, got impl.State, code int64, want impl.State, wanted int64) {
	t.Helper()
	wantState(t, what, got, want)
	wantCode(t, what, code, wanted)
}

func wantClueCode(t *testing.T, what string, got impl.Clue, code int64, want impl.Clue, wanted int64) {
	t.Helper()
	if !sameSix(got.H, want.H) || !same(got.Z, want.Z) || !same(got.Noise, want.Noise) {
		t.Errorf("%s: got %v, want %v", what, got, want)
	}
	wantCode(t, what, code, wanted)
}

func wantNumberCode(t *testing.T, what string, got float32, code int64, want float32, wanted int64) {
	t.Helper()
	wantNumber(t, what, got, want)
	wantCode(t, what, code, wanted)
}

// spreadState returns the state with x and some spreads.
func spreadState(t *testing.T, x, spread impl.Six) impl.State {
	t.Helper()
	s, code := impl.StateOf(x, spread)
	wantCode(t, "StateOf", code, impl.OK)
	return s
}

// ones returns the state of 0 with spreads of 1.
func ones(t *testing.T) impl.State {
	t.Helper()
	return spreadState(t, impl.Six{}, impl.Six{1, 1, 1, 1, 1, 1})
}

// wideCovariance returns the covariance in wide numbers, for what is said nearly.
func wideCovariance(s impl.State) [6][6]float64 {
	var p [6][6]float64
	for i := range 6 {
		for j := range 6 {
			for k := range 6 {
				p[i][j] += float64(s.S[i][k]) * float64(s.S[j][k])
			}
		}
	}
	return p
}

// badStates returns states that are not valid, each one for a reason of its own.
func badStates() []impl.State {
	var list []impl.State
	put := func(change func(s *impl.State)) {
		s := impl.State{X: impl.Six{1, 2, 3, 4, 5, 6}}
		for i := range 6 {
			s.S[i][i] = 1
		}
		change(&s)
		list = append(list, s)
	}
	for i := range 6 {
		for _, a := range []float32{infinite, -infinite, nan, otherNaN} {
			put(func(s *impl.State) { s.X[i] = a })
			for j := range 6 {
				put(func(s *impl.State) { s.S[i][j] = a })
			}
		}
		for _, a := range []float32{-1, -tiniest, -greatest} {
			put(func(s *impl.State) { s.S[i][i] = a })
			for j := i + 1; j < 6; j++ {
				put(func(s *impl.State) { s.S[i][j] = a })
				put(func(s *impl.State) { s.S[i][j] = -a })
			}
		}
	}
	return list
}

// badClues returns clues that are not valid.
func badClues() []impl.Clue {
	var list []impl.Clue
	put := func(change func(r *impl.Clue)) {
		r := impl.Clue{H: impl.Six{1, 0, 0, 0, 0, 0}, Z: 1, Noise: 1}
		change(&r)
		list = append(list, r)
	}
	for _, a := range []float32{infinite, -infinite, nan, otherNaN} {
		for i := range 6 {
			put(func(r *impl.Clue) { r.H[i] = a })
		}
		put(func(r *impl.Clue) { r.Z = a })
		put(func(r *impl.Clue) { r.Noise = a })
	}
	for _, a := range []float32{0, minusZero, -1, -tiniest, -greatest} {
		put(func(r *impl.Clue) { r.Noise = a })
	}
	return list
}
