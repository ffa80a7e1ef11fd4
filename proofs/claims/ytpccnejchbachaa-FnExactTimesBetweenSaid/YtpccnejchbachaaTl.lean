/- A number of ticks of a sensor. No condition. -/
import Derived.Test.YtpccnejchbachaaTk
namespace Go.Proofs.Ytpccnejchbachaa
open Go Go.RowKit
set_option linter.unusedVariables false

theorem sen_at6 {cs : List Value} {ins : List NV} {ev : Int} (hm : KMs senK cs ins) (h : cs[6]? = some (.int .i64 ev)) : ev = (ins.getD 6 (.i 0)).gi := by
  obtain ⟨v0, c0, n0, i0, rfl, rfl, _, h0⟩ := KMs_cons hm
  obtain ⟨v1, c1, n1, i1, rfl, rfl, _, h1⟩ := KMs_cons h0
  obtain ⟨v2, c2, n2, i2, rfl, rfl, _, h2⟩ := KMs_cons h1
  obtain ⟨v3, c3, n3, i3, rfl, rfl, _, h3⟩ := KMs_cons h2
  obtain ⟨v4, c4, n4, i4, rfl, rfl, _, h4⟩ := KMs_cons h3
  obtain ⟨v5, c5, n5, i5, rfl, rfl, _, h5⟩ := KMs_cons h4
  obtain ⟨v6, c6, n6, i6, rfl, rfl, k6, h6⟩ := KMs_cons h5
  have k6 : v6 = .int .i64 n6.gi := k6
  have h : some v6 = some (.int .i64 ev) := h
  rw [k6] at h
  injection h with h
  injection h with _ h
  exact h.symm

end Go.Proofs.Ytpccnejchbachaa
