/- Lists of Sight: copied, compared, counted. No condition. -/
import Derived.Test.YtcopccniijkceaaGz
namespace Go.Proofs.Ytcopccniijkceaa
open Go Go.RowKit
set_option linter.unusedVariables false

abbrev KSight : List Kd := [.f .f32, .f .f32, .f .f32, .f .f32, .i .i64]
noncomputable def wkTSight : DT (SV × St) := callDT tb ftab otb 60 40 0 137 [inSh 0 (.agg KSight)] ⟨.nil, [], []⟩
noncomputable def nsTSight : List Df := wkTSight.gather []
theorem wfTSight : wfT (withIds nsTSight) [] = true := by kernel_rfl
theorem chTSight : wkTSight.chk nsTSight [] (endIs (.agg (inKs 0 KSight))) = true := by kernel_rfl

theorem c_toSight (v : Value) (r : List NV) (w : World) (h : ShM (.agg KSight) v r) : Calls Try.prog 137 #[v] w fun e w' => ∃ cs : Array Value, e = .returned (.agg cs) ∧ KMs KSight cs.toList r ∧ Below w.heap.size w w' := by
  have hl : r.length = 5 := by obtain ⟨cs, _, hk⟩ := h; exact KMs_rlen hk
  have hl' : r.length ≤ 1000 := by omega
  refine (walk_args (args := [inSh 0 (.agg KSight)]) (vs := #[v]) (ins := r) (r := .agg (inKs 0 KSight)) tb_ok mixed ftab_ok (otb_ok baseΦ_ok) wfTSight chTSight (by kernel_rfl) ⟨inSh_ok h fun j hj => ins_at hl' j hj, trivial⟩).mono ?_
  rintro e w' ⟨v', γ, rfl, ⟨cs, rfl, hm⟩, hs⟩
  exact ⟨cs, rfl, KMs_back hm hl fun j hj => ins_at hl' j hj, hs⟩

noncomputable def wkESight : DT (SV × St) := callDT tb ftab otb 60 40 0 141 [inSh 0 (.agg KSight), inSh 0 (.agg KSight)] ⟨.nil, [], []⟩
noncomputable def nsESight : List Df := wkESight.gather []
theorem wfESight : wfT (withIds nsESight) [] = true := by kernel_rfl
theorem chESight : wkESight.chk nsESight [] (endIs (.one (.lit (.bool true)))) = true := by kernel_rfl

theorem c_eqSight (v v' : Value) (r : List NV) (w : World) (h : ShM (.agg KSight) v r) (h' : ShM (.agg KSight) v' r) : Calls Try.prog 141 #[v, v'] w fun e w' => e = .returned (.bool true) ∧ Below w.heap.size w w' := by
  have hl : r.length = 5 := by obtain ⟨cs, _, hk⟩ := h; exact KMs_rlen hk
  have hl' : r.length ≤ 1000 := by omega
  refine (walk_args (args := [inSh 0 (.agg KSight), inSh 0 (.agg KSight)]) (vs := #[v, v']) (ins := r) (r := .one (.lit (.bool true))) tb_ok mixed ftab_ok (otb_ok baseΦ_ok) wfESight chESight (by kernel_rfl) ⟨inSh_ok h fun j hj => ins_at hl' j hj, inSh_ok h' fun j hj => ins_at hl' j hj, trivial⟩).mono ?_
  rintro e w' ⟨v2, γ, rfl, hm, hs⟩
  exact ⟨congrArg _ hm, hs⟩

theorem c_szSightS (A : Option Addr) (c n : Nat) (left : Int) (w : World) (hn : n ≤ 9223372036854775807) (h0 : 0 ≤ left) (h1 : left ≤ 1048576) :
    Calls Try.prog 94 #[.slice A n c, .int .i64 left] w fun e w' => e = .returned (.int .i64 (if left - n < 0 then -1 else left - n)) ∧ w = w' := by
  go_enter Try.func94, Try.ntmps94
  have e : IntKind.i64.wrap (left - (n : Int)) = left - n := IntWalk.i64_in _ (by omega)
  by_cases h : left - (n : Int) < 0
  · go_wp2
    go_ret
    exact ⟨rfl, rfl⟩
  · go_wp2
    go_ret
    exact ⟨rfl, rfl⟩

set_option maxRecDepth 100000 in
set_option maxHeartbeats 400000 in
theorem c_eqSightS (A A' : Option Addr) (c c' : Nat) (xs : List (List NV)) (w : World) (h : Ls KSight 5 w w.heap.size A xs) (h' : Ls KSight 5 w w.heap.size A' xs) (hn : xs.length ≤ 1048576) :
    Calls Try.prog 104 #[.slice A xs.length c, .slice A' xs.length c'] w fun e w' => e = .returned (.bool true) ∧ Below w.heap.size w w' := by
  have H := Lib.hid h
  have H' := Lib.hid h'
  clear h h'
  go_enter Try.func104, Try.ntmps104
  go_wp2
  go_loopw [5] (fun i wr => ∃ k : Nat, k ≤ xs.length ∧ i = .int .i64 k ∧ Hid (Below w.heap.size w wr)) (fun i _ => xs.length - (intOf i).toNat)
  case atStart => exact ⟨0, Nat.zero_le _, rfl, Lib.hid (Below.refl _ _)⟩
  case round =>
    obtain ⟨k, hk, rfl, hb⟩ := hrel
    by_cases hlt : k < xs.length
    · obtain ⟨ad, rfl, hbl, hrow⟩ := (H.out.below hb.out) k xs[k] (List.getElem?_eq_getElem hlt)
      obtain ⟨ad', rfl, hbl', hrow'⟩ := (H'.out.below hb.out) k xs[k] (List.getElem?_eq_getElem hlt)
      generalize xs[k] = m at hrow hrow'
      obtain ⟨c0, c1, c2, c3, c4, hK, g0, g1, g2, g3, g4⟩ := row5 rfl hrow
      obtain ⟨d0, d1, d2, d3, d4, hK', k0, k1, k2, k3, k4⟩ := row5 rfl hrow'
      have hV := Lib.hid (show ShM (.agg KSight) (.agg #[c0, c1, c2, c3, c4]) m from ⟨_, rfl, hK⟩)
      have hV' := Lib.hid (show ShM (.agg KSight) (.agg #[d0, d1, d2, d3, d4]) m from ⟨_, rfl, hK'⟩)
      clear hK hK' hrow hrow'
      have hlt' : (k : Int) < (xs.length : Int) := by omega
      go_wp2_with fail
      go_still_tail 8, (by kernel_rfl)
      change wpList _ _ _ _ _ wr.drew
      have hb2 := Lib.hid (hb.out.drew)
      generalize wr.drew = w2 at hb2 ⊢
      go_wp2_with (go_at_call 141; refine (c_eqSight _ _ m _ hV.out hV'.out).mono ?_; rintro e w3 ⟨rfl, hb3⟩; have hb4 := Lib.hid (hb2.out.trans (hb3.mono hb2.out.size)); clear hb3)
      go_round
      case rel => exact ⟨k + 1, by omega, by go_num, hb4⟩
      case measure => simp [intOf]; omega
    · go_wp2
      go_ret
      exact ⟨rfl, hb.out⟩

theorem infoSight : (Try.prog.info? 109).map (fun i => (i.zero, i.size, i.bytes)) = some (some (.agg #[.float .f32 0, .float .f32 0, .float .f32 0, .float .f32 0, .int .i64 0]), 5, 24) := by kernel_rfl

set_option maxRecDepth 100000 in
set_option maxHeartbeats 400000 in
theorem c_toSightS (A : Option Addr) (c : Nat) (xs : List (List NV)) (w : World) (h : Ls KSight 5 w w.heap.size A xs) (hn : xs.length ≤ 1048576) :
    Calls Try.prog 100 #[.slice A xs.length c] w fun e w' => e = .returned (.slice (some ⟨w.heap.size, 0, none⟩) xs.length xs.length) ∧ PutL KSight 5 w w' xs xs.length := by
  have H := Lib.hid h
  clear h
  obtain ⟨i0, hi0, hz0, hz1, hz2⟩ := info_parts infoSight
  have hmk : ∀ u : World, (Instr.makeSlice 107 (.int .i64 (xs.length : Nat)) (.int .i64 (xs.length : Nat))).run Try.prog u = .ok (.slice (some ⟨u.heap.size, 0, none⟩) xs.length xs.length) (u.alloc (.cells (madeCells (Value.agg #[.float .f32 0, .float .f32 0, .float .f32 0, .float .f32 0, .int .i64 0]).cells (xs.length * 5)) 109)) := fun u => by
    have := run_make (P := Try.prog) u 107 109 i0 _ Try.underlying107 hi0 hz0 .i64 .i64 (xs.length : Nat) (xs.length : Nat) (by omega) (Int.le_refl _) (by rw [hz2]; omega) (by omega)
    simpa [hz1] using this
  go_enter Try.func100, Try.ntmps100
  go_wp2
  have hmt := Lib.hid (made_there w (Value.agg #[.float .f32 0, .float .f32 0, .float .f32 0, .float .f32 0, .int .i64 0]).cells (xs.length * 5) 109)
  go_loopw [4] (fun i wr => ∃ k : Nat, k ≤ xs.length ∧ i = .int .i64 k ∧ Hid (PutL KSight 5 w wr xs k)) (fun i _ => xs.length - (intOf i).toNat)
  case atStart => exact ⟨0, Nat.zero_le _, rfl, Lib.hid ⟨(Below.refl _ _).alloc (Nat.le_refl _) _, hmt.out, (Array.getElem?_eq_some_iff.1 (heap_alloc_new w _)).1, fun i r hi _ => by omega⟩⟩
  case round =>
    obtain ⟨k, hk, rfl, hb⟩ := hrel
    by_cases hlt : k < xs.length
    · obtain ⟨ad, rfl, hbl, hrow⟩ := (H.out.below hb.out.below) k xs[k] (List.getElem?_eq_getElem hlt)
      have hrk : Hid (xs[k]? = some xs[k]) := Lib.hid (List.getElem?_eq_getElem hlt)
      generalize xs[k] = m at hrow hrk
      obtain ⟨c0, c1, c2, c3, c4, hK, g0, g1, g2, g3, g4⟩ := row5 rfl hrow
      have hV := Lib.hid (show ShM (.agg KSight) (.agg #[c0, c1, c2, c3, c4]) m from ⟨_, rfl, hK⟩)
      clear hK hrow
      have hlt' : (k : Int) < (xs.length : Int) := by omega
      go_wp2_with (go_at_call 137; refine (c_toSight _ m _ hV.out).mono ?_; rintro e w3 ⟨cs, rfl, hcs, hb3⟩; obtain ⟨hst, hcp⟩ := hb.out.next (cs := cs) rfl hb3 hrk.out hcs (by decide); have hcp := Lib.hid hcp; have hsz : cs.size = 5 := KMs_len hcs; clear hb3 hcs)
      go_round
      case rel => exact ⟨k + 1, by omega, by go_num, hcp⟩
      case measure => simp [intOf]; omega
    · have e : k = xs.length := by omega
      subst e
      go_wp2
      go_ret
      exact ⟨rfl, hb.out⟩
end Go.Proofs.Ytcopccniijkceaa
