/- Lists of Pose: copied, compared, counted. Lists of Link: copied, compared, counted. Graphs: two lists in a struct: counted, copied, compared. An argument that is a graph, opened. No condition. -/
import Derived.Test.YtpccnejchbachaaDoorGz
namespace Go.Proofs.YtpccnejchbachaaDoor
open Go Go.RowKit
set_option linter.unusedVariables false

abbrev KPose : List Kd := [.f .f32, .f .f32, .f .f32]
noncomputable def wkTPose : DT (SV × St) := callDT tb ftab otb 60 40 0 68 [inSh 0 (.agg KPose)] ⟨.nil, [], []⟩
noncomputable def nsTPose : List Df := wkTPose.gather []
theorem wfTPose : wfT (withIds nsTPose) [] = true := by kernel_rfl
theorem chTPose : wkTPose.chk nsTPose [] (endIs (.agg (inKs 0 KPose))) = true := by kernel_rfl

theorem c_toPose (v : Value) (r : List NV) (w : World) (h : ShM (.agg KPose) v r) : Calls Tryd.prog 68 #[v] w fun e w' => ∃ cs : Array Value, e = .returned (.agg cs) ∧ KMs KPose cs.toList r ∧ Below w.heap.size w w' := by
  have hl : r.length = 3 := by obtain ⟨cs, _, hk⟩ := h; exact KMs_rlen hk
  have hl' : r.length ≤ 1000 := by omega
  refine (walk_args (args := [inSh 0 (.agg KPose)]) (vs := #[v]) (ins := r) (r := .agg (inKs 0 KPose)) tb_ok mixed ftab_ok (otb_ok baseΦ_ok) wfTPose chTPose (by kernel_rfl) ⟨inSh_ok h fun j hj => ins_at hl' j hj, trivial⟩).mono ?_
  rintro e w' ⟨v', γ, rfl, ⟨cs, rfl, hm⟩, hs⟩
  exact ⟨cs, rfl, KMs_back hm hl fun j hj => ins_at hl' j hj, hs⟩

noncomputable def wkEPose : DT (SV × St) := callDT tb ftab otb 60 40 0 73 [inSh 0 (.agg KPose), inSh 0 (.agg KPose)] ⟨.nil, [], []⟩
noncomputable def nsEPose : List Df := wkEPose.gather []
theorem wfEPose : wfT (withIds nsEPose) [] = true := by kernel_rfl
theorem chEPose : wkEPose.chk nsEPose [] (endIs (.one (.lit (.bool true)))) = true := by kernel_rfl

theorem c_eqPose (v v' : Value) (r : List NV) (w : World) (h : ShM (.agg KPose) v r) (h' : ShM (.agg KPose) v' r) : Calls Tryd.prog 73 #[v, v'] w fun e w' => e = .returned (.bool true) ∧ Below w.heap.size w w' := by
  have hl : r.length = 3 := by obtain ⟨cs, _, hk⟩ := h; exact KMs_rlen hk
  have hl' : r.length ≤ 1000 := by omega
  refine (walk_args (args := [inSh 0 (.agg KPose), inSh 0 (.agg KPose)]) (vs := #[v, v']) (ins := r) (r := .one (.lit (.bool true))) tb_ok mixed ftab_ok (otb_ok baseΦ_ok) wfEPose chEPose (by kernel_rfl) ⟨inSh_ok h fun j hj => ins_at hl' j hj, inSh_ok h' fun j hj => ins_at hl' j hj, trivial⟩).mono ?_
  rintro e w' ⟨v2, γ, rfl, hm, hs⟩
  exact ⟨congrArg _ hm, hs⟩

theorem c_szPoseS (A : Option Addr) (c n : Nat) (left : Int) (w : World) (hn : n ≤ 9223372036854775807) (h0 : 0 ≤ left) (h1 : left ≤ 1048576) :
    Calls Tryd.prog 36 #[.slice A n c, .int .i64 left] w fun e w' => e = .returned (.int .i64 (if left - n < 0 then -1 else left - n)) ∧ w = w' := by
  go_enter Tryd.func36, Tryd.ntmps36
  have e : IntKind.i64.wrap (left - (n : Int)) = left - n := IntWalk.i64_in _ (by omega)
  by_cases h : left - (n : Int) < 0
  · go_wp2
    go_ret
    exact ⟨rfl, rfl⟩
  · go_wp2
    go_ret
    exact ⟨rfl, rfl⟩

set_option maxRecDepth 100000 in
set_option maxHeartbeats 400000 in
theorem c_eqPoseS (A A' : Option Addr) (c c' : Nat) (xs : List (List NV)) (w : World) (h : Ls KPose 3 w w.heap.size A xs) (h' : Ls KPose 3 w w.heap.size A' xs) (hn : xs.length ≤ 1048576) :
    Calls Tryd.prog 45 #[.slice A xs.length c, .slice A' xs.length c'] w fun e w' => e = .returned (.bool true) ∧ Below w.heap.size w w' := by
  have H := Lib.hid h
  have H' := Lib.hid h'
  clear h h'
  go_enter Tryd.func45, Tryd.ntmps45
  go_wp2
  go_loopw [5] (fun i wr => ∃ k : Nat, k ≤ xs.length ∧ i = .int .i64 k ∧ Hid (Below w.heap.size w wr)) (fun i _ => xs.length - (intOf i).toNat)
  case atStart => exact ⟨0, Nat.zero_le _, rfl, Lib.hid (Below.refl _ _)⟩
  case round =>
    obtain ⟨k, hk, rfl, hb⟩ := hrel
    by_cases hlt : k < xs.length
    · obtain ⟨ad, rfl, hbl, hrow⟩ := (H.out.below hb.out) k xs[k] (List.getElem?_eq_getElem hlt)
      obtain ⟨ad', rfl, hbl', hrow'⟩ := (H'.out.below hb.out) k xs[k] (List.getElem?_eq_getElem hlt)
      generalize xs[k] = m at hrow hrow'
      obtain ⟨c0, c1, c2, hK, g0, g1, g2⟩ := row3 rfl hrow
      obtain ⟨d0, d1, d2, hK', k0, k1, k2⟩ := row3 rfl hrow'
      have hV := Lib.hid (show ShM (.agg KPose) (.agg #[c0, c1, c2]) m from ⟨_, rfl, hK⟩)
      have hV' := Lib.hid (show ShM (.agg KPose) (.agg #[d0, d1, d2]) m from ⟨_, rfl, hK'⟩)
      clear hK hK' hrow hrow'
      have hlt' : (k : Int) < (xs.length : Int) := by omega
      go_wp2_with fail
      go_still_tail 8, (by kernel_rfl)
      change wpList _ _ _ _ _ wr.drew
      have hb2 := Lib.hid (hb.out.drew)
      generalize wr.drew = w2 at hb2 ⊢
      go_wp2_with (go_at_call 73; refine (c_eqPose _ _ m _ hV.out hV'.out).mono ?_; rintro e w3 ⟨rfl, hb3⟩; have hb4 := Lib.hid (hb2.out.trans (hb3.mono hb2.out.size)); clear hb3)
      go_round
      case rel => exact ⟨k + 1, by omega, by go_num, hb4⟩
      case measure => simp [intOf]; omega
    · go_wp2
      go_ret
      exact ⟨rfl, hb.out⟩

theorem infoPose : (Tryd.prog.info? 94).map (fun i => (i.zero, i.size, i.bytes)) = some (some (.agg #[.float .f32 0, .float .f32 0, .float .f32 0]), 3, 12) := by kernel_rfl

set_option maxRecDepth 100000 in
set_option maxHeartbeats 400000 in
theorem c_toPoseS (A : Option Addr) (c : Nat) (xs : List (List NV)) (w : World) (h : Ls KPose 3 w w.heap.size A xs) (hn : xs.length ≤ 1048576) :
    Calls Tryd.prog 40 #[.slice A xs.length c] w fun e w' => e = .returned (.slice (some ⟨w.heap.size, 0, none⟩) xs.length xs.length) ∧ PutL KPose 3 w w' xs xs.length := by
  have H := Lib.hid h
  clear h
  obtain ⟨i0, hi0, hz0, hz1, hz2⟩ := info_parts infoPose
  have hmk : ∀ u : World, (Instr.makeSlice 46 (.int .i64 (xs.length : Nat)) (.int .i64 (xs.length : Nat))).run Tryd.prog u = .ok (.slice (some ⟨u.heap.size, 0, none⟩) xs.length xs.length) (u.alloc (.cells (madeCells (Value.agg #[.float .f32 0, .float .f32 0, .float .f32 0]).cells (xs.length * 3)) 94)) := fun u => by
    have := run_make (P := Tryd.prog) u 46 94 i0 _ Tryd.underlying46 hi0 hz0 .i64 .i64 (xs.length : Nat) (xs.length : Nat) (by omega) (Int.le_refl _) (by rw [hz2]; omega) (by omega)
    simpa [hz1] using this
  go_enter Tryd.func40, Tryd.ntmps40
  go_wp2
  have hmt := Lib.hid (made_there w (Value.agg #[.float .f32 0, .float .f32 0, .float .f32 0]).cells (xs.length * 3) 94)
  go_loopw [4] (fun i wr => ∃ k : Nat, k ≤ xs.length ∧ i = .int .i64 k ∧ Hid (PutL KPose 3 w wr xs k)) (fun i _ => xs.length - (intOf i).toNat)
  case atStart => exact ⟨0, Nat.zero_le _, rfl, Lib.hid ⟨(Below.refl _ _).alloc (Nat.le_refl _) _, hmt.out, (Array.getElem?_eq_some_iff.1 (heap_alloc_new w _)).1, fun i r hi _ => by omega⟩⟩
  case round =>
    obtain ⟨k, hk, rfl, hb⟩ := hrel
    by_cases hlt : k < xs.length
    · obtain ⟨ad, rfl, hbl, hrow⟩ := (H.out.below hb.out.below) k xs[k] (List.getElem?_eq_getElem hlt)
      have hrk : Hid (xs[k]? = some xs[k]) := Lib.hid (List.getElem?_eq_getElem hlt)
      generalize xs[k] = m at hrow hrk
      obtain ⟨c0, c1, c2, hK, g0, g1, g2⟩ := row3 rfl hrow
      have hV := Lib.hid (show ShM (.agg KPose) (.agg #[c0, c1, c2]) m from ⟨_, rfl, hK⟩)
      clear hK hrow
      have hlt' : (k : Int) < (xs.length : Int) := by omega
      go_wp2_with (go_at_call 68; refine (c_toPose _ m _ hV.out).mono ?_; rintro e w3 ⟨cs, rfl, hcs, hb3⟩; obtain ⟨hst, hcp⟩ := hb.out.next (cs := cs) rfl hb3 hrk.out hcs (by decide); have hcp := Lib.hid hcp; have hsz : cs.size = 3 := KMs_len hcs; clear hb3 hcs)
      go_round
      case rel => exact ⟨k + 1, by omega, by go_num, hcp⟩
      case measure => simp [intOf]; omega
    · have e : k = xs.length := by omega
      subst e
      go_wp2
      go_ret
      exact ⟨rfl, hb.out⟩
end Go.Proofs.YtpccnejchbachaaDoor

namespace Go.Proofs.YtpccnejchbachaaDoor
open Go Go.RowKit
set_option linter.unusedVariables false

abbrev KLink : List Kd := [.i .i64, .i .i64, .f .f32, .f .f32, .f .f32, .f .f32]
noncomputable def wkTLink : DT (SV × St) := callDT tb ftab otb 60 40 0 69 [inSh 0 (.agg KLink)] ⟨.nil, [], []⟩
noncomputable def nsTLink : List Df := wkTLink.gather []
theorem wfTLink : wfT (withIds nsTLink) [] = true := by kernel_rfl
theorem chTLink : wkTLink.chk nsTLink [] (endIs (.agg (inKs 0 KLink))) = true := by kernel_rfl

theorem c_toLink (v : Value) (r : List NV) (w : World) (h : ShM (.agg KLink) v r) : Calls Tryd.prog 69 #[v] w fun e w' => ∃ cs : Array Value, e = .returned (.agg cs) ∧ KMs KLink cs.toList r ∧ Below w.heap.size w w' := by
  have hl : r.length = 6 := by obtain ⟨cs, _, hk⟩ := h; exact KMs_rlen hk
  have hl' : r.length ≤ 1000 := by omega
  refine (walk_args (args := [inSh 0 (.agg KLink)]) (vs := #[v]) (ins := r) (r := .agg (inKs 0 KLink)) tb_ok mixed ftab_ok (otb_ok baseΦ_ok) wfTLink chTLink (by kernel_rfl) ⟨inSh_ok h fun j hj => ins_at hl' j hj, trivial⟩).mono ?_
  rintro e w' ⟨v', γ, rfl, ⟨cs, rfl, hm⟩, hs⟩
  exact ⟨cs, rfl, KMs_back hm hl fun j hj => ins_at hl' j hj, hs⟩

noncomputable def wkELink : DT (SV × St) := callDT tb ftab otb 60 40 0 74 [inSh 0 (.agg KLink), inSh 0 (.agg KLink)] ⟨.nil, [], []⟩
noncomputable def nsELink : List Df := wkELink.gather []
theorem wfELink : wfT (withIds nsELink) [] = true := by kernel_rfl
theorem chELink : wkELink.chk nsELink [] (endIs (.one (.lit (.bool true)))) = true := by kernel_rfl

theorem c_eqLink (v v' : Value) (r : List NV) (w : World) (h : ShM (.agg KLink) v r) (h' : ShM (.agg KLink) v' r) : Calls Tryd.prog 74 #[v, v'] w fun e w' => e = .returned (.bool true) ∧ Below w.heap.size w w' := by
  have hl : r.length = 6 := by obtain ⟨cs, _, hk⟩ := h; exact KMs_rlen hk
  have hl' : r.length ≤ 1000 := by omega
  refine (walk_args (args := [inSh 0 (.agg KLink), inSh 0 (.agg KLink)]) (vs := #[v, v']) (ins := r) (r := .one (.lit (.bool true))) tb_ok mixed ftab_ok (otb_ok baseΦ_ok) wfELink chELink (by kernel_rfl) ⟨inSh_ok h fun j hj => ins_at hl' j hj, inSh_ok h' fun j hj => ins_at hl' j hj, trivial⟩).mono ?_
  rintro e w' ⟨v2, γ, rfl, hm, hs⟩
  exact ⟨congrArg _ hm, hs⟩

theorem c_szLinkS (A : Option Addr) (c n : Nat) (left : Int) (w : World) (hn : n ≤ 9223372036854775807) (h0 : 0 ≤ left) (h1 : left ≤ 1048576) :
    Calls Tryd.prog 37 #[.slice A n c, .int .i64 left] w fun e w' => e = .returned (.int .i64 (if left - n < 0 then -1 else left - n)) ∧ w = w' := by
  go_enter Tryd.func37, Tryd.ntmps37
  have e : IntKind.i64.wrap (left - (n : Int)) = left - n := IntWalk.i64_in _ (by omega)
  by_cases h : left - (n : Int) < 0
  · go_wp2
    go_ret
    exact ⟨rfl, rfl⟩
  · go_wp2
    go_ret
    exact ⟨rfl, rfl⟩

set_option maxRecDepth 100000 in
set_option maxHeartbeats 400000 in
theorem c_eqLinkS (A A' : Option Addr) (c c' : Nat) (xs : List (List NV)) (w : World) (h : Ls KLink 6 w w.heap.size A xs) (h' : Ls KLink 6 w w.heap.size A' xs) (hn : xs.length ≤ 1048576) :
    Calls Tryd.prog 46 #[.slice A xs.length c, .slice A' xs.length c'] w fun e w' => e = .returned (.bool true) ∧ Below w.heap.size w w' := by
  have H := Lib.hid h
  have H' := Lib.hid h'
  clear h h'
  go_enter Tryd.func46, Tryd.ntmps46
  go_wp2
  go_loopw [5] (fun i wr => ∃ k : Nat, k ≤ xs.length ∧ i = .int .i64 k ∧ Hid (Below w.heap.size w wr)) (fun i _ => xs.length - (intOf i).toNat)
  case atStart => exact ⟨0, Nat.zero_le _, rfl, Lib.hid (Below.refl _ _)⟩
  case round =>
    obtain ⟨k, hk, rfl, hb⟩ := hrel
    by_cases hlt : k < xs.length
    · obtain ⟨ad, rfl, hbl, hrow⟩ := (H.out.below hb.out) k xs[k] (List.getElem?_eq_getElem hlt)
      obtain ⟨ad', rfl, hbl', hrow'⟩ := (H'.out.below hb.out) k xs[k] (List.getElem?_eq_getElem hlt)
      generalize xs[k] = m at hrow hrow'
      obtain ⟨c0, c1, c2, c3, c4, c5, hK, g0, g1, g2, g3, g4, g5⟩ := row6 rfl hrow
      obtain ⟨d0, d1, d2, d3, d4, d5, hK', k0, k1, k2, k3, k4, k5⟩ := row6 rfl hrow'
      have hV := Lib.hid (show ShM (.agg KLink) (.agg #[c0, c1, c2, c3, c4, c5]) m from ⟨_, rfl, hK⟩)
      have hV' := Lib.hid (show ShM (.agg KLink) (.agg #[d0, d1, d2, d3, d4, d5]) m from ⟨_, rfl, hK'⟩)
      clear hK hK' hrow hrow'
      have hlt' : (k : Int) < (xs.length : Int) := by omega
      go_wp2_with fail
      go_still_tail 8, (by kernel_rfl)
      change wpList _ _ _ _ _ wr.drew
      have hb2 := Lib.hid (hb.out.drew)
      generalize wr.drew = w2 at hb2 ⊢
      go_wp2_with (go_at_call 74; refine (c_eqLink _ _ m _ hV.out hV'.out).mono ?_; rintro e w3 ⟨rfl, hb3⟩; have hb4 := Lib.hid (hb2.out.trans (hb3.mono hb2.out.size)); clear hb3)
      go_round
      case rel => exact ⟨k + 1, by omega, by go_num, hb4⟩
      case measure => simp [intOf]; omega
    · go_wp2
      go_ret
      exact ⟨rfl, hb.out⟩

theorem infoLink : (Tryd.prog.info? 96).map (fun i => (i.zero, i.size, i.bytes)) = some (some (.agg #[.int .i64 0, .int .i64 0, .float .f32 0, .float .f32 0, .float .f32 0, .float .f32 0]), 6, 32) := by kernel_rfl

set_option maxRecDepth 100000 in
set_option maxHeartbeats 400000 in
theorem c_toLinkS (A : Option Addr) (c : Nat) (xs : List (List NV)) (w : World) (h : Ls KLink 6 w w.heap.size A xs) (hn : xs.length ≤ 1048576) :
    Calls Tryd.prog 41 #[.slice A xs.length c] w fun e w' => e = .returned (.slice (some ⟨w.heap.size, 0, none⟩) xs.length xs.length) ∧ PutL KLink 6 w w' xs xs.length := by
  have H := Lib.hid h
  clear h
  obtain ⟨i0, hi0, hz0, hz1, hz2⟩ := info_parts infoLink
  have hmk : ∀ u : World, (Instr.makeSlice 47 (.int .i64 (xs.length : Nat)) (.int .i64 (xs.length : Nat))).run Tryd.prog u = .ok (.slice (some ⟨u.heap.size, 0, none⟩) xs.length xs.length) (u.alloc (.cells (madeCells (Value.agg #[.int .i64 0, .int .i64 0, .float .f32 0, .float .f32 0, .float .f32 0, .float .f32 0]).cells (xs.length * 6)) 96)) := fun u => by
    have := run_make (P := Tryd.prog) u 47 96 i0 _ Tryd.underlying47 hi0 hz0 .i64 .i64 (xs.length : Nat) (xs.length : Nat) (by omega) (Int.le_refl _) (by rw [hz2]; omega) (by omega)
    simpa [hz1] using this
  go_enter Tryd.func41, Tryd.ntmps41
  go_wp2
  have hmt := Lib.hid (made_there w (Value.agg #[.int .i64 0, .int .i64 0, .float .f32 0, .float .f32 0, .float .f32 0, .float .f32 0]).cells (xs.length * 6) 96)
  go_loopw [4] (fun i wr => ∃ k : Nat, k ≤ xs.length ∧ i = .int .i64 k ∧ Hid (PutL KLink 6 w wr xs k)) (fun i _ => xs.length - (intOf i).toNat)
  case atStart => exact ⟨0, Nat.zero_le _, rfl, Lib.hid ⟨(Below.refl _ _).alloc (Nat.le_refl _) _, hmt.out, (Array.getElem?_eq_some_iff.1 (heap_alloc_new w _)).1, fun i r hi _ => by omega⟩⟩
  case round =>
    obtain ⟨k, hk, rfl, hb⟩ := hrel
    by_cases hlt : k < xs.length
    · obtain ⟨ad, rfl, hbl, hrow⟩ := (H.out.below hb.out.below) k xs[k] (List.getElem?_eq_getElem hlt)
      have hrk : Hid (xs[k]? = some xs[k]) := Lib.hid (List.getElem?_eq_getElem hlt)
      generalize xs[k] = m at hrow hrk
      obtain ⟨c0, c1, c2, c3, c4, c5, hK, g0, g1, g2, g3, g4, g5⟩ := row6 rfl hrow
      have hV := Lib.hid (show ShM (.agg KLink) (.agg #[c0, c1, c2, c3, c4, c5]) m from ⟨_, rfl, hK⟩)
      clear hK hrow
      have hlt' : (k : Int) < (xs.length : Int) := by omega
      go_wp2_with (go_at_call 69; refine (c_toLink _ m _ hV.out).mono ?_; rintro e w3 ⟨cs, rfl, hcs, hb3⟩; obtain ⟨hst, hcp⟩ := hb.out.next (cs := cs) rfl hb3 hrk.out hcs (by decide); have hcp := Lib.hid hcp; have hsz : cs.size = 6 := KMs_len hcs; clear hb3 hcs)
      go_round
      case rel => exact ⟨k + 1, by omega, by go_num, hcp⟩
      case measure => simp [intOf]; omega
    · have e : k = xs.length := by omega
      subst e
      go_wp2
      go_ret
      exact ⟨rfl, hb.out⟩
end Go.Proofs.YtpccnejchbachaaDoor

namespace Go.Proofs.YtpccnejchbachaaDoor
open Go Go.RowKit
set_option linter.unusedVariables false
set_option linter.unusedSimpArgs false

theorem c_szPoseGraph (A A' : Option Addr) (c c' n m : Nat) (left : Int) (w : World) (hn : n ≤ 9223372036854775807) (hm : m ≤ 9223372036854775807) (h0 : 0 ≤ left) (h1 : left ≤ 1048576) :
    Calls Tryd.prog 14 #[.agg #[.slice A n c, .slice A' m c'], .int .i64 left] w fun e w' => e = .returned (.int .i64 (if left - n - m < 0 then -1 else left - n - m)) ∧ Below w.heap.size w w' := by
  have k1 := fun W => c_szPoseS A c n left W hn h0 h1
  by_cases hl : left - (n : Int) < 0
  · have e1 : (if left - (n : Int) - (m : Int) < 0 then (-1 : Int) else left - n - m) = -1 := if_pos (by omega)
    rw [e1]
    simp only [if_pos hl] at k1
    have k1 := Lib.hid k1
    go_enter Tryd.func14, Tryd.ntmps14
    go_wp2_with (go_at_call 36; refine (k1.out _).mono ?_; rintro e w' ⟨rfl, rfl⟩)
    go_ret
    exact ⟨rfl, by first | exact Below.refl _ _ | exact (Below.refl _ _).alloc (Nat.le_refl _) _⟩
  · simp only [if_neg hl] at k1
    have k2 := fun W => c_szLinkS A' c' m (left - n) W hm (by omega) (by omega)
    have hX : (if left - (n : Int) - (m : Int) < 0 then (-1 : Int) else left - n - m) = -1 ∨ 0 ≤ (if left - (n : Int) - (m : Int) < 0 then (-1 : Int) else left - n - m) := by split <;> omega
    generalize (if left - (n : Int) - (m : Int) < 0 then (-1 : Int) else left - n - m) = X at k2 hX ⊢
    generalize left - (n : Int) = L at hl k1 k2
    have k1 := Lib.hid k1
    have k2 := Lib.hid k2
    rcases hX with rfl | hX
    all_goals
      go_enter Tryd.func14, Tryd.ntmps14
      go_wp2_with (first | (go_at_call 36; refine (k1.out _).mono ?_; rintro e w' ⟨rfl, rfl⟩) | (go_at_call 37; refine (k2.out _).mono ?_; rintro e w' ⟨rfl, rfl⟩))
      go_ret
      exact ⟨rfl, by first | exact Below.refl _ _ | exact (Below.refl _ _).alloc (Nat.le_refl _) _⟩

/-- A graph as a value: two lists that lie in memory. -/
structure GrV (w : World) (B : Nat) (v : Value) (ps ls : List (List NV)) : Prop where
  val : ∃ A c A' c', v = .agg #[.slice A ps.length c, .slice A' ls.length c'] ∧ Ls KPose 3 w B A ps ∧ Ls KLink 6 w B A' ls

theorem GrV.below {w w' : World} {B : Nat} {v : Value} {ps ls : List (List NV)} (h : GrV w B v ps ls) (hb : Below B w w') : GrV w' B v ps ls := by
  obtain ⟨A, c, A', c', e, h1, h2⟩ := h.val
  exact ⟨A, c, A', c', e, h1.below hb, h2.below hb⟩

theorem GrV.more {w : World} {B B' : Nat} {v : Value} {ps ls : List (List NV)} (h : GrV w B v ps ls) (hB : B ≤ B') : GrV w B' v ps ls := by
  obtain ⟨A, c, A', c', e, h1, h2⟩ := h.val
  exact ⟨A, c, A', c', e, h1.more hB, h2.more hB⟩

theorem GrV.on {w w' : World} {v : Value} {ps ls : List (List NV)} (h : GrV w w.heap.size v ps ls) (hb : Below w.heap.size w w') : GrV w' w'.heap.size v ps ls := (h.below hb).more hb.size

set_option maxRecDepth 100000 in
set_option maxHeartbeats 800000 in
theorem c_eqPoseGraph (v v' : Value) (ps ls : List (List NV)) (w : World) (h : GrV w w.heap.size v ps ls) (h' : GrV w w.heap.size v' ps ls) (hn : ps.length ≤ 1048576) (hm : ls.length ≤ 1048576) :
    Calls Tryd.prog 18 #[v, v'] w fun e w' => e = .returned (.bool true) ∧ Below w.heap.size w w' := by
  obtain ⟨A, c, A', c', rfl, h1, h2⟩ := h.val
  obtain ⟨D, d, D', d', rfl, h3, h4⟩ := h'.val
  have u0 : ((w.alloc (.cells #[.slice A ps.length c, .slice A' ls.length c'] 49)).alloc (.cells #[.slice D ps.length d, .slice D' ls.length d'] 49)).heap[w.heap.size]? = some (.cells #[.slice A ps.length c, .slice A' ls.length c'] 49 (0, 0)) := by (repeat (first | (refine heap_top _ _ _ ?_; simp; done) | (with_reducible refine heap_drawn _ _ _ ?_) | (with_reducible refine heap_under _ _ _ ?_ ?_; (simp <;> omega))))
  have u1 : ((w.alloc (.cells #[.slice A ps.length c, .slice A' ls.length c'] 49)).alloc (.cells #[.slice D ps.length d, .slice D' ls.length d'] 49)).heap[w.heap.size + 1]? = some (.cells #[.slice D ps.length d, .slice D' ls.length d'] 49 (0, 0)) := by (repeat (first | (refine heap_top _ _ _ ?_; simp; done) | (with_reducible refine heap_drawn _ _ _ ?_) | (with_reducible refine heap_under _ _ _ ?_ ?_; (simp <;> omega))))
  have hA := Lib.hid fun w1 (h : Stays ((w.alloc (.cells #[.slice A ps.length c, .slice A' ls.length c'] 49)).alloc (.cells #[.slice D ps.length d, .slice D' ls.length d'] 49)) w1) => row_of h u0
  have hA' := Lib.hid fun w1 (h : Stays ((w.alloc (.cells #[.slice A ps.length c, .slice A' ls.length c'] 49)).alloc (.cells #[.slice D ps.length d, .slice D' ls.length d'] 49)) w1) => row_of h u1
  clear u0 u1
  have hS : Stays ((w.alloc (.cells #[.slice A ps.length c, .slice A' ls.length c'] 49)).alloc (.cells #[.slice D ps.length d, .slice D' ls.length d'] 49)) ((w.alloc (.cells #[.slice A ps.length c, .slice A' ls.length c'] 49)).alloc (.cells #[.slice D ps.length d, .slice D' ls.length d'] 49)) := Stays.refl _
  have hW : Hid (∀ w1, Stays ((w.alloc (.cells #[.slice A ps.length c, .slice A' ls.length c'] 49)).alloc (.cells #[.slice D ps.length d, .slice D' ls.length d'] 49)) w1 → Below w.heap.size w w1) := Lib.hid fun w1 h => Stays.trans (show Stays w _ from (Stays.alloc (Stays.alloc (Stays.refl w) _) _)) h
  have k1 := Lib.hid fun W (hb : Below w.heap.size w W) => c_eqPoseS A D c d ps W ((h1.below hb).more hb.size) ((h3.below hb).more hb.size) hn
  have k2 := Lib.hid fun W (hb : Below w.heap.size w W) => c_eqLinkS A' D' c' d' ls W ((h2.below hb).more hb.size) ((h4.below hb).more hb.size) hm
  clear h1 h2 h3 h4 h h'
  go_enter Tryd.func18, Tryd.ntmps18
  go_wp2_with (first
    | (go_at_call 45; refine (k1.out _ (hW.out _ hS)).mono ?_; rintro e w1 ⟨rfl, hw1⟩; replace hS := Stays.trans hS hw1; clear hw1; have hc := hA.out _ hS; have hc' := hA'.out _ hS)
    | (go_at_call 46; refine (k2.out _ (hW.out _ hS)).mono ?_; rintro e w1 ⟨rfl, hw1⟩; replace hS := Stays.trans hS hw1; clear hw1))
  go_ret
  exact ⟨rfl, hW.out _ hS⟩

theorem Same.of_block {w w' : World} {g : Nat} (h : w'.heap[g]? = w.heap[g]?) (hs : w.heap.size ≤ w'.heap.size) : Same w w' g :=
  ⟨fun p hp => by subst hp; unfold World.cell?; rw [h], fun p hp => by subst hp; unfold World.frozen?; rw [h], hs⟩

set_option maxRecDepth 100000 in
set_option maxHeartbeats 800000 in
theorem c_toPoseGraph (v : Value) (ps ls : List (List NV)) (w : World) (h : GrV w w.heap.size v ps ls) (hn : ps.length ≤ 1048576) (hm : ls.length ≤ 1048576) :
    Calls Tryd.prog 16 #[v] w fun e w' => ∃ g1 g2, e = .returned (.agg #[.slice (some ⟨g1, 0, none⟩) ps.length ps.length, .slice (some ⟨g2, 0, none⟩) ls.length ls.length]) ∧ w.heap.size ≤ g1 ∧ g1 < g2 ∧ Below w.heap.size w w' ∧
      LiesL KPose 3 w' g1 (.slice (some ⟨g1, 0, none⟩) ps.length ps.length) ps ∧ LiesL KLink 6 w' g2 (.slice (some ⟨g2, 0, none⟩) ls.length ls.length) ls := by
  obtain ⟨A, c, A', c', rfl, h1, h2⟩ := h.val
  have k1 := Lib.hid fun W (hb : Below w.heap.size w W) => c_toPoseS A c ps W ((h1.below hb).more hb.size) hn
  have k2 := Lib.hid fun W (hb : Below w.heap.size w W) => c_toLinkS A' c' ls W ((h2.below hb).more hb.size) hm
  clear h1 h2 h
  have E : Hid ((((w.alloc (.cells #[.slice A ps.length c, .slice A' ls.length c'] 43)).alloc (.cells #[.slice none 0 0, .slice none 0 0] 49)).alloc (.cells #[.slice none 0 0, .slice none 0 0] 49)).heap[w.heap.size]? = some (.cells #[.slice A ps.length c, .slice A' ls.length c'] 43 (0, 0)) ∧ (((w.alloc (.cells #[.slice A ps.length c, .slice A' ls.length c'] 43)).alloc (.cells #[.slice none 0 0, .slice none 0 0] 49)).alloc (.cells #[.slice none 0 0, .slice none 0 0] 49)).heap[w.heap.size + 1]? = some (.cells #[.slice none 0 0, .slice none 0 0] 49 (0, 0)) ∧ (((w.alloc (.cells #[.slice A ps.length c, .slice A' ls.length c'] 43)).alloc (.cells #[.slice none 0 0, .slice none 0 0] 49)).alloc (.cells #[.slice none 0 0, .slice none 0 0] 49)).heap[w.heap.size + 1 + 1]? = some (.cells #[.slice none 0 0, .slice none 0 0] 49 (0, 0)) ∧ (((w.alloc (.cells #[.slice A ps.length c, .slice A' ls.length c'] 43)).alloc (.cells #[.slice none 0 0, .slice none 0 0] 49)).alloc (.cells #[.slice none 0 0, .slice none 0 0] 49)).heap.size = w.heap.size + 3 ∧ Below w.heap.size w (((w.alloc (.cells #[.slice A ps.length c, .slice A' ls.length c'] 43)).alloc (.cells #[.slice none 0 0, .slice none 0 0] 49)).alloc (.cells #[.slice none 0 0, .slice none 0 0] 49))) :=
    Lib.hid ⟨by (repeat (first | (refine heap_top _ _ _ ?_; simp; done) | (with_reducible refine heap_drawn _ _ _ ?_) | (with_reducible refine heap_under _ _ _ ?_ ?_; (simp <;> omega)))), by (repeat (first | (refine heap_top _ _ _ ?_; simp; done) | (with_reducible refine heap_drawn _ _ _ ?_) | (with_reducible refine heap_under _ _ _ ?_ ?_; (simp <;> omega)))), by (repeat (first | (refine heap_top _ _ _ ?_; simp; done) | (with_reducible refine heap_drawn _ _ _ ?_) | (with_reducible refine heap_under _ _ _ ?_ ?_; (simp <;> omega)))), by simp, show Stays w _ from by (repeat (first | exact Stays.refl _ | (with_reducible refine Stays.drewN ?_ _) | (with_reducible refine Stays.alloc ?_ _) | (with_reducible refine Stays.drew ?_) | (refine Stays.trans ?_ ‹Stays _ _›)))⟩
  go_enter Tryd.func16, Tryd.ntmps16
  go_wp2_with fail
  generalize (((w.alloc (.cells #[.slice A ps.length c, .slice A' ls.length c'] 43)).alloc (.cells #[.slice none 0 0, .slice none 0 0] 49)).alloc (.cells #[.slice none 0 0, .slice none 0 0] 49)) = W0 at E ⊢
  obtain ⟨e0, e1, e2, es, eb⟩ := E.out
  refine (k1.out _ eb).mono ?_
  rintro e w1 ⟨rfl, hp⟩
  replace hp := Lib.hid hp
  generalize hg1 : W0.heap.size = g1 at hp ⊢
  replace e0 := (hp.out.below.block w.heap.size (by omega)).trans e0
  replace e1 := (hp.out.below.block (w.heap.size + 1) (by omega)).trans e1
  replace e2 := (hp.out.below.block (w.heap.size + 1 + 1) (by omega)).trans e2
  have hb1 : Below w.heap.size w w1 := eb.trans (hp.out.below.mono eb.size)
  have hs1 := hp.out.lt
  rw [hg1] at hs1
  have c0 : w1.cell? ⟨w.heap.size + 1 + 1, 0, none⟩ = some (.slice none 0 0) := cell_of_row _ _ _ _ _ _ e2
  have d0 : w1.frozen? ⟨w.heap.size + 1 + 1, 0, none⟩ = false := frozen_of_row _ _ _ _ _ e2
  have n0 := (heap_setCell_other w1 ⟨w.heap.size + 1 + 1, 0, none⟩ w.heap.size (.slice (some ⟨g1, 0, none⟩) ps.length ps.length) (by simp; omega)).trans e0
  have n1 := (heap_setCell_other w1 ⟨w.heap.size + 1 + 1, 0, none⟩ (w.heap.size + 1) (.slice (some ⟨g1, 0, none⟩) ps.length ps.length) (by simp)).trans e1
  have n2 := heap_setCell_same w1 (w.heap.size + 1 + 1) 0 _ _ (.slice (some ⟨g1, 0, none⟩) ps.length ps.length) e2
  have hb2 : Below w.heap.size w (w1.setCell ⟨w.heap.size + 1 + 1, 0, none⟩ (.slice (some ⟨g1, 0, none⟩) ps.length ps.length)) := hb1.setCell (by simp; omega) _
  have c1 : (w1.setCell ⟨w.heap.size + 1 + 1, 0, none⟩ (.slice (some ⟨g1, 0, none⟩) ps.length ps.length)).cell? ⟨w.heap.size, 1, none⟩ = some (.slice A' ls.length c') := cell_of_row _ _ _ _ _ _ n0
  have hL1 : LiesL KPose 3 (w1.setCell ⟨w.heap.size + 1 + 1, 0, none⟩ (.slice (some ⟨g1, 0, none⟩) ps.length ps.length)) g1 (.slice (some ⟨g1, 0, none⟩) ps.length ps.length) ps := by
    have := hp.out.lies
    rw [hg1] at this
    exact this.on fun _ => same_sets (w.heap.size + 1 + 1) g1 0 [_] w1 (by omega)
  replace n0 := Lib.hid n0
  replace n1 := Lib.hid n1
  replace n2 := Lib.hid n2
  replace hL1 := Lib.hid hL1
  replace hb2 := Lib.hid hb2
  replace hs1 := Lib.hid (show g1 < (w1.setCell ⟨w.heap.size + 1 + 1, 0, none⟩ (.slice (some ⟨g1, 0, none⟩) ps.length ps.length)).heap.size from by simp [World.setCell]; exact hs1)
  have hge := Lib.hid (show w.heap.size + 3 ≤ g1 from by omega)
  clear hp e0 e1 e2 hb1 eb es hg1 E W0
  go_wp2_with fail
  clear c0 d0 c1
  generalize (w1.setCell ⟨w.heap.size + 1 + 1, 0, none⟩ (.slice (some ⟨g1, 0, none⟩) ps.length ps.length)) = W2 at n0 n1 n2 hL1 hb2 hs1 ⊢
  refine (k2.out _ hb2.out).mono ?_
  rintro e w3 ⟨rfl, hp⟩
  replace hp := Lib.hid hp
  generalize hg2 : W2.heap.size = g2 at hp hs1 ⊢
  have e1 := (hp.out.below.block (w.heap.size + 1) (by have := hge.out; have := hs1.out; omega)).trans n1.out
  have e2 := (hp.out.below.block (w.heap.size + 1 + 1) (by have := hge.out; have := hs1.out; omega)).trans n2.out
  have hb3 : Below w.heap.size w w3 := hb2.out.trans (hp.out.below.mono hb2.out.size)
  have c0 : w3.cell? ⟨w.heap.size + 1 + 1, 1, none⟩ = some (.slice none 0 0) := cell_of_row _ _ _ _ _ _ e2
  have d0 : w3.frozen? ⟨w.heap.size + 1 + 1, 1, none⟩ = false := frozen_of_row _ _ _ _ _ e2
  have m1 := (heap_setCell_other w3 ⟨w.heap.size + 1 + 1, 1, none⟩ (w.heap.size + 1) (.slice (some ⟨g2, 0, none⟩) ls.length ls.length) (by simp)).trans e1
  have m2 := heap_setCell_same w3 (w.heap.size + 1 + 1) 1 _ _ (.slice (some ⟨g2, 0, none⟩) ls.length ls.length) e2
  have c1 : (w3.setCell ⟨w.heap.size + 1 + 1, 1, none⟩ (.slice (some ⟨g2, 0, none⟩) ls.length ls.length)).cell? ⟨w.heap.size + 1 + 1, 0, none⟩ = some (.slice (some ⟨g1, 0, none⟩) ps.length ps.length) := cell_of_row _ _ _ _ _ _ m2
  have c2 : (w3.setCell ⟨w.heap.size + 1 + 1, 1, none⟩ (.slice (some ⟨g2, 0, none⟩) ls.length ls.length)).cell? ⟨w.heap.size + 1 + 1, 1, none⟩ = some (.slice (some ⟨g2, 0, none⟩) ls.length ls.length) := cell_of_row _ _ _ _ _ _ m2
  have hst : Stays w (w3.setCell ⟨w.heap.size + 1 + 1, 1, none⟩ (.slice (some ⟨g2, 0, none⟩) ls.length ls.length)) := hb3.setCell (by simp; omega) _
  have hL2 : LiesL KLink 6 w3 g2 (.slice (some ⟨g2, 0, none⟩) ls.length ls.length) ls := by
    have := hp.out.lies
    rw [hg2] at this
    exact this
  replace hL2 := Lib.hid (hL2.on fun _ => same_sets (w.heap.size + 1 + 1) g2 1 [.slice (some ⟨g2, 0, none⟩) ls.length ls.length] w3 (by have := hge.out; have := hs1.out; omega))
  have hL1b := hL1.out.below (hp.out.below.mono (by omega))
  replace hL1 := Lib.hid (hL1b.on fun _ => same_sets (w.heap.size + 1 + 1) g1 1 [.slice (some ⟨g2, 0, none⟩) ls.length ls.length] w3 (by have := hge.out; omega))
  have hres := m1
  have hgs := Lib.hid (show g2 < (w3.setCell ⟨w.heap.size + 1 + 1, 1, none⟩ (.slice (some ⟨g2, 0, none⟩) ls.length ls.length)).heap.size from by have := hp.out.lt; rw [hg2] at this; simp [World.setCell]; exact this)
  clear hL1b e1 e2 m1 m2 hb3 n0 n1 n2 hb2 hp hg2
  change Hid (LiesL KPose 3 (w3.setCell ⟨w.heap.size + 1 + 1, 1, none⟩ (.slice (some ⟨g2, 0, none⟩) ls.length ls.length)) g1 _ ps) at hL1
  change Hid (LiesL KLink 6 (w3.setCell ⟨w.heap.size + 1 + 1, 1, none⟩ (.slice (some ⟨g2, 0, none⟩) ls.length ls.length)) g2 _ ls) at hL2
  go_wp2_with (refine wpList_store_row rfl _ _ _ rfl _ _ _ rfl rfl hres ?hi ?ho ?h1 ?hB hst ?_; (case hi => kernel_rfl); (case ho => rfl); (case h1 => first | rfl | simp [Value.oneCell']); (case hB => first | omega | (simp <;> omega)); intro w2 hw2 hq2 hother hsame)
  go_wp2
  apply end_agg rfl rfl rfl Tryd.underlying49 rfl (t := 49)
  case hg => exact hq2
  case hi => kernel_rfl
  case hR =>
    have hp1 : g1 ≠ w.heap.size + 1 := by have := hge.out; omega
    have hp2 : g2 ≠ w.heap.size + 1 := by have := hge.out; have := hs1.out; omega
    have hlt := hgs.out
    refine ⟨g1, g2, rfl, by have := hge.out; omega, hs1.out, hw2, ?_, ?_⟩
    · exact hL1.out.on fun h => Same.of_block (hother g1 h hp1) (by omega)
    · exact hL2.out.on fun h => Same.of_block (hother g2 h hp2) (by omega)
end Go.Proofs.YtpccnejchbachaaDoor

namespace Go.Proofs.YtpccnejchbachaaDoor
open Go Go.ChangeShapes Go.WideShapes Go.RowKit
set_option linter.unusedVariables false
set_option linter.unusedSimpArgs false

set_option maxRecDepth 100000 in
theorem open_graph {H : Type} {enc : TypeId × Value → H} {w : World} {held : Bool} {r : Reach} {b0 : Nat} {v : Value} {d : DataW H} {p : List MemPlace} (hval : Value.okWide Tryd.prog w r b0 43 v)
    (h : DataW.Trod enc Tryd.prog w 0 (fun _ => true) held 43 v d p) : ∃ ps ls, GrV w w.heap.size v ps ls ∧ ps.length ≤ 9223372036854775807 ∧ ls.length ≤ 9223372036854775807 := by
  obtain ⟨v0, v1, y0, y1, n, rfl, _, _, h0, h1⟩ := Joins.open_agg2 Tryd.underlying43 (by kernel_rfl) (by kernel_rfl) hval h
  obtain ⟨A, ps, c, e0, l0, b0⟩ := trod_rows (K := KPose) Tryd.underlying40 rfl (by decide) (by kernel_rfl) (by kernel_rfl) h0
  obtain ⟨A', ls, c', e1, l1, b1⟩ := trod_rows (K := KLink) Tryd.underlying41 rfl (by decide) (by kernel_rfl) (by kernel_rfl) h1
  cases e0
  cases e1
  exact ⟨ps, ls, ⟨A, c, A', c', rfl, l0, l1⟩, b0, b1⟩
end Go.Proofs.YtpccnejchbachaaDoor
