package tests

import (
	"fmt"
	"strings"
	"testing"

	"loop.example/g01204/impl"
)

// answers calls every function of chapter 1 and writes all results, numbers by their bits.
func answers(m, n impl.Mat, u, v impl.Vec, a, b float32, code int64, text string) string {
	var out strings.Builder
	add := func(list ...any) { fmt.Fprintln(&out, list...) }
	vec := func(v impl.Vec, code int64) { add(bitsOf(v[:]...), code) }
	mat := func(m impl.Mat, code int64) { add(bitsOf(m[0][:]...), bitsOf(m[1][:]...), bitsOf(m[2][:]...), code) }
	add(impl.CodeName(code), impl.SameNumber(a, b), impl.IsFiniteVec(u), impl.SameVec(u, v), impl.AreNear(u, v, a), impl.IsFiniteMat(m), impl.SameMat(m, n))
	add(bitsOf(impl.DotVec(u, v), impl.LengthOf(u), impl.TraceOf(m), impl.DeterminantOf(m)))
	add(impl.NumberText(a), impl.VecText(u), impl.MatText(m))
	vec(impl.AddVec(u, v), 0)
	vec(impl.SubVec(u, v), 0)
	vec(impl.ScaleVec(u, a), 0)
	vec(impl.CrossVec(u, v), 0)
	vec(impl.MulMatVec(m, v), 0)
	vec(impl.UnitOf(u))
	vec(impl.SolveMat(m, v))
	vec(impl.ReadVec(text))
	mat(impl.UnitMat(), 0)
	mat(impl.AddMat(m, n), 0)
	mat(impl.ScaleMat(m, a), 0)
	mat(impl.TransposeMat(m), 0)
	mat(impl.OuterOf(u, v), 0)
	mat(impl.MulMat(m, n), 0)
	mat(impl.InverseMat(m))
	mat(impl.RootMat(m))
	mat(impl.ReadMat(text))
	c, code := impl.ReadNumber(text)
	add(bitsOf(c), code)
	return out.String()
}

// bitsOf writes each NaN in the same way, since they are all the same.
func bitsOf(list ...float32) string {
	texts := make([]string, len(list))
	for i, a := range list {
		texts[i] = fmt.Sprintf("%b", a)
	}
	return strings.Join(texts, " ")
}

func TestEqualArgumentsHaveEqualResults(t *testing.T) {
	d := &dice{seed: 12}
	texts := []string{"", "3f800000", "\xff", strings.Repeat("7fc00000 ", 3), strings.Repeat("\n", 100000), impl.MatText(impl.UnitMat())}
	type arguments struct {
		m, n impl.Mat
		u, v impl.Vec
		a, b float32
		code int64
		text string
	}
	var list []arguments
	var first []string
	for i := range 2000 {
		g := arguments{matFrom(d.any), matFrom(d.any), vecFrom(d.any), vecFrom(d.any), d.any(), d.any(), int64(d.below(12)) - 1, texts[i%len(texts)]}
		list = append(list, g)
		first = append(first, answers(g.m, g.n, g.u, g.v, g.a, g.b, g.code, g.text))
	}
	for i := len(list) - 1; i >= 0; i-- { // in another order, so that a state that is kept would be seen
		g := list[i]
		m, n, u, v := g.m, g.n, g.u, g.v
		if got := answers(m, n, u, v, g.a, g.b, g.code, g.text); got != first[i] {
			t.Fatalf("other results for equal arguments:\n%s\n%s", first[i], got)
		}
		if !sameMat(m, g.m) || !sameMat(n, g.n) || !sameVec(u, g.u) || !sameVec(v, g.v) {
			t.Fatal("an argument was modified")
		}
	}
}

// TestEverySpecialNumber puts each special number into each place: nothing may panic.
func TestEverySpecialNumber(t *testing.T) {
	for _, a := range specials() {
		for i := range 9 {
			m := impl.Mat{{4, 1, 2}, {1, 5, 3}, {2, 3, 6}}
			m[i/3][i%3] = a
			answers(m, impl.TransposeMat(m), m[i/3], m[i%3], a, 1, 0, impl.MatText(m))
		}
	}
}
