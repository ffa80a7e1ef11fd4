/- The centre of a map, as the program has it. No condition. -/
import Derived.Test.YtejljfejajckoaaCea
import Derived.Test.YtejljfejajckoaaLa
namespace Go.Proofs.Ytejljfejajckoaa
open Go Go.ChangeShapes Go.WideShapes Go.RowKit
set_option linter.unusedVariables false
set_option linter.unusedSimpArgs false


/-- A mark, its words in memory. -/
theorem mark_at {B : Nat} {W : World} {ad : Addr} {xs : List Mk} {k : Nat} {m : Mk} (hB : B ≤ W.heap.size) (h : Mks W B (some ad) xs) (hk : xs[k]? = some m) : ∃ ra rb rc rd, (FIs .f32 ra m.a ∧ FIs .f32 rb m.b ∧ FIs .f32 rc m.c ∧ FIs .f32 rd m.d) ∧ ∀ W', Stays W W' → (W'.cell? (ad.add (k * 9)) = some (.int .i32 m.x) ∧ W'.cell? ⟨(ad.add (k * 9)).block, (ad.add (k * 9)).off + 1, none⟩ = some (.int .i32 m.y) ∧ W'.cell? ⟨(ad.add (k * 9)).block, (ad.add (k * 9)).off + 2, none⟩ = some (.int .i32 m.z) ∧
    W'.cell? ⟨(ad.add (k * 9)).block, (ad.add (k * 9)).off + 3, none⟩ = some (.float .f32 ra) ∧ W'.cell? ⟨(ad.add (k * 9)).block, (ad.add (k * 9)).off + 4, none⟩ = some (.float .f32 rb) ∧ W'.cell? ⟨(ad.add (k * 9)).block, (ad.add (k * 9)).off + 5, none⟩ = some (.float .f32 rc) ∧ W'.cell? ⟨(ad.add (k * 9)).block, (ad.add (k * 9)).off + 6, none⟩ = some (.float .f32 rd) ∧ W'.cell? ⟨(ad.add (k * 9)).block, (ad.add (k * 9)).off + 7, none⟩ = some (.int .i64 m.s) ∧ W'.cell? ⟨(ad.add (k * 9)).block, (ad.add (k * 9)).off + 8, none⟩ = some (.int .i64 m.l)) := by
  obtain ⟨ad', e, hbl, hrow⟩ := h k m hk
  cases e
  replace hrow : RowAt mkK W (ad.add (k * 9)) m.ins := hrow
  obtain ⟨cs, hkm, hc⟩ := hrow
  have hl := KMs_len hkm
  have hb : (ad.add (k * 9)).block < W.heap.size := by rw [block_add]; omega
  match cs, hl, hkm with
  | [v0, v1, v2, v3, v4, v5, v6, v7, v8], _, ⟨e0, e1, e2, ⟨ra, e3, f3⟩, ⟨rb, e4, f4⟩, ⟨rc, e5, f5⟩, ⟨rd, e6, f6⟩, e7, e8, _⟩ =>
    cases e0; cases e1; cases e2; cases e3; cases e4; cases e5; cases e6; cases e7; cases e8
    exact ⟨ra, rb, rc, rd, ⟨f3, f4, f5, f6⟩, fun W' hW => ⟨(hW.cell (p := ad.add (k * 9)) hb).trans (hc 0 _ rfl), (hW.cell (p := ⟨(ad.add (k * 9)).block, (ad.add (k * 9)).off + 1, none⟩) hb).trans (hc 1 _ rfl), (hW.cell (p := ⟨(ad.add (k * 9)).block, (ad.add (k * 9)).off + 2, none⟩) hb).trans (hc 2 _ rfl), (hW.cell (p := ⟨(ad.add (k * 9)).block, (ad.add (k * 9)).off + 3, none⟩) hb).trans (hc 3 _ rfl), (hW.cell (p := ⟨(ad.add (k * 9)).block, (ad.add (k * 9)).off + 4, none⟩) hb).trans (hc 4 _ rfl), (hW.cell (p := ⟨(ad.add (k * 9)).block, (ad.add (k * 9)).off + 5, none⟩) hb).trans (hc 5 _ rfl), (hW.cell (p := ⟨(ad.add (k * 9)).block, (ad.add (k * 9)).off + 6, none⟩) hb).trans (hc 6 _ rfl), (hW.cell (p := ⟨(ad.add (k * 9)).block, (ad.add (k * 9)).off + 7, none⟩) hb).trans (hc 7 _ rfl), (hW.cell (p := ⟨(ad.add (k * 9)).block, (ad.add (k * 9)).off + 8, none⟩) hb).trans (hc 8 _ rfl)⟩⟩
theorem marks_tail {ad : Addr} {n c : Nat} (h1 : 1 ≤ n) (hc : n ≤ c) : ∃ A', (∀ w, (Instr.slice 33 (.slice (some ad) n c) (some (.int .i64 1)) none none).run Try.prog w = .ok (.slice A' (n - 1) (c - 1)) w) ∧ (1 < n → A' = some (ad.add 9)) := by
  have hsz : ∀ w : World, (sizeOf (Try.prog.elem 33)).run Try.prog w = .ok 9 w := fun w => by kernel_rfl
  have hel : Try.prog.elem 33 = 113 := by kernel_rfl
  refine ⟨if c = 1 then some ad else some (ad.add 9), fun w => ?_, fun h => if_neg (by omega)⟩
  rw [run_slice_l w 33 (some ad) n c (by rw [hel]; exact Try.underlying33) .i64 1 (by decide) (by omega), hsz]
  by_cases h : c = 1
  · subst h; rfl
  · simp [Result.andThen, sliced, h]
theorem mark_next (a : Addr) (k : Nat) : (a.add 9).add (k * 9) = a.add ((k + 1) * 9) := by
  have e1 : a.add 9 = ⟨a.block, a.off + 9, none⟩ := rfl
  have e2 : a.add ((k + 1) * 9) = ⟨a.block, a.off + (k + 1) * 9, none⟩ := by
    unfold Addr.add
    rw [if_neg (by omega)]
  rw [e1, e2]
  unfold Addr.add
  split
  · congr 1; omega
  · congr 1
    show a.off + 9 + k * 9 = _
    omega
end Go.Proofs.Ytejljfejajckoaa
