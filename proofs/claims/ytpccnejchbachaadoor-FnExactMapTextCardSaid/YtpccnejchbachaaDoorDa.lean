/- Decimal numbers: the document's loop. No condition. -/
import Derived.Test.YtpccnejchbachaaDoorGv
import Derived.Lib.ItoaNum
import Derived.Laws.IdiomStrings
import Derived.Lib.ItoaLen
import Derived.Deep.AppendLies
import Derived.Deep.RegionLaw
namespace Go.Proofs.YtpccnejchbachaaDoor
open Go Go.ChangeShapes Go.WideShapes Go.RowKit
set_option linter.unusedVariables false
set_option linter.unusedSimpArgs false

def decS (n : Nat) : ByteArray := ⟨(Lib.decDigits n).toArray⟩

theorem u8_dig (d : Nat) (h : d < 10) : ((UInt8.ofNat (48 + d)).toNat : Int) = ((48 + d : Nat) : Int) := by
  rw [UInt8.toNat_ofNat']
  omega

theorem conv_one (W : World) (d : Nat) (hd : d < 10) (p : Nat) (hc : W.cell? ⟨p, 0, none⟩ = some (.int .u8 (48 + (d : Int)))) :
    (convert 68 9 (.slice (some ⟨p, 0, none⟩) 1 1)).run Tryd.prog W = .ok (.string ⟨#[UInt8.ofNat (48 + d)]⟩) W := by
  refine run_convert_bytes_back W 68 9 5 ⟨p, 0, none⟩ 1 [UInt8.ofNat (48 + d)] Tryd.underlying68 Tryd.underlying5 Tryd.underlying9 fun j hj => ?_
  have hj0 : j = 0 := by simp at hj; omega
  subst hj0
  show W.cell? ⟨p, 0, none⟩ = _
  rw [hc]
  refine congrArg some (congrArg (Value.int .u8) ?_)
  show 48 + (d : Int) = ((UInt8.ofNat (48 + d)).toNat : Int)
  rw [u8_dig d hd]
  omega

theorem decS_small {n : Nat} (h : n < 10) : decS n = ⟨#[UInt8.ofNat (48 + n)]⟩ := by unfold decS; rw [Lib.decDigits_one h]

theorem decS_big {n : Nat} (h : ¬ n < 10) : decS n = decS (n / 10) ++ ⟨#[UInt8.ofNat (48 + n % 10)]⟩ := by
  have e : Lib.decDigits n = Lib.decDigits (n / 10) ++ [UInt8.ofNat (48 + n % 10)] := by rw [Lib.decDigits, dif_neg h]
  unfold decS
  rw [e]
  apply ByteArray.ext
  simp

theorem decS_len {n : Nat} (h : n < 9223372036854775808) : (decS n).size ≤ 21 := by
  show (Lib.decDigits n).toArray.size ≤ 21
  rw [List.size_toArray, ← Lib.itoa_nonneg]
  exact Lib.itoa_length_le _ (by omega) (by omega)

theorem conv_new (W : World) (d : Nat) (hd : d < 10) :
    (convert 68 9 (.slice (some ⟨W.heap.size, 0, none⟩) 1 1)).run Tryd.prog (W.alloc (.cells #[.int .u8 (48 + (d : Int))] 5)) = .ok (.string ⟨#[UInt8.ofNat (48 + d)]⟩) (W.alloc (.cells #[.int .u8 (48 + (d : Int))] 5)) :=
  conv_one _ d hd W.heap.size (cell_of_row _ _ 0 _ _ _ (heap_alloc_new W _))

set_option maxRecDepth 100000 in
set_option maxHeartbeats 4000000 in
theorem c_Decimal (n : Nat) : ∀ (w : World), n < 9223372036854775808 →
    Calls Tryd.prog 21 #[.int .i64 (n : Nat)] w fun e w' => e = .returned (.string (decS n)) ∧ Stays w w' := by
  induction n using Nat.strongRecOn with
  | _ n ih =>
    intro w hn
    by_cases h : n < 10
    · have h1 : ¬ ((10 : Int) ≤ (n : Int)) := by omega
      have e1 : IntKind.i64.wrap (48 + (n : Int)) = 48 + (n : Int) := IntWalk.i64_in _ (by omega)
      have e2 : IntKind.u8.wrap (48 + (n : Int)) = 48 + (n : Int) := by
        show (48 + (n : Int)) % 256 = _
        omega
      have hq := fun W => conv_new W n h
      have hs := decS_small h
      obtain ⟨D, hD⟩ : ∃ D : ByteArray, D = ⟨#[UInt8.ofNat (48 + n)]⟩ := ⟨_, rfl⟩
      rw [← hD] at hs
      simp only [← hD] at hq
      replace hs := Lib.hid hs
      clear ih h hD
      go_enter Tryd.func21, Tryd.ntmps21
      go_wp2
      go_ret
      exact ⟨congrArg (fun x => Ending.returned (Value.string x)) hs.out.symm, by (repeat (first | exact Stays.refl _ | (with_reducible refine Stays.drewN ?_ _) | (with_reducible refine Stays.alloc ?_ _) | (with_reducible refine Stays.drew ?_) | (refine Stays.trans ?_ ‹Stays _ _›)))⟩
    · have h1 : (10 : Int) ≤ (n : Int) := by omega
      have hs := decS_big h
      have e0 : Int.tdiv (n : Int) 10 = ((n / 10 : Nat) : Int) := by rw [Int.tdiv_eq_ediv_of_nonneg (by omega)]; simp
      have e3 : Int.tmod (n : Int) 10 = ((n % 10 : Nat) : Int) := by rw [Int.tmod_eq_emod_of_nonneg (by omega)]; simp
      have hr : n % 10 < 10 := by omega
      have hqn : n / 10 < n := by omega
      generalize n / 10 = q at hs e0 hqn
      generalize n % 10 = r at hs e3 hr
      have ih1 := Lib.hid fun W => ih q hqn W (by omega)
      have e01 : IntKind.i64.wrap (q : Int) = (q : Int) := IntWalk.i64_in _ (by omega)
      have e31 : IntKind.i64.wrap (r : Int) = (r : Int) := IntWalk.i64_in _ (by omega)
      have e1 : IntKind.i64.wrap (48 + (r : Int)) = 48 + (r : Int) := IntWalk.i64_in _ (by omega)
      have e2 : IntKind.u8.wrap (48 + (r : Int)) = 48 + (r : Int) := by
        show (48 + (r : Int)) % 256 = _
        omega
      have hq := fun W => conv_new W r hr
      have hqd : ∀ W : World, (convert 68 9 (.slice (some ⟨W.heap.size, 0, none⟩) 1 1)).run Tryd.prog (W.alloc (.cells #[.int .u8 (48 + (r : Int))] 5)).drew = .ok (.string ⟨#[UInt8.ofNat (48 + r)]⟩) (W.alloc (.cells #[.int .u8 (48 + (r : Int))] 5)).drew := fun W => conv_one _ r hr W.heap.size (row_of ((Stays.refl _).drew) (heap_alloc_new W _) 0)
      have hc5 := fun W => conv_one W r hr
      have hlen := decS_len (n := q) (by omega)
      have hadd := fun W => run_string_add_sum (P := Tryd.prog) W (decS q) ⟨#[UInt8.ofNat (48 + r)]⟩ (by show (decS q).size + 1 ≤ _; omega)
      obtain ⟨D, hD⟩ : ∃ D : ByteArray, D = ⟨#[UInt8.ofNat (48 + r)]⟩ := ⟨_, rfl⟩
      rw [← hD] at hs
      simp only [← hD] at hq hqd hc5 hadd
      replace hs := Lib.hid hs
      replace hc5 := Lib.hid hc5
      clear ih hlen hqn hr h hn hD
      go_enter Tryd.func21, Tryd.ntmps21
      go_wp2
      go_region_law (first
        | (go_simp; go_at_call 21; refine (ih1.out _).mono ?_; rintro e w5 ⟨rfl, hb5⟩; (first | (have hq5 := hc5.out w5 _ (row_of hb5 (heap_alloc_new w _) 0)) | (have hq5 := hc5.out w5 _ (row_of ((Stays.refl _).drew.trans hb5) (heap_alloc_new w _) 0)) | skip); replace hb5 := Lib.hid hb5))
      all_goals go_wp2
      all_goals go_ret
      all_goals exact ⟨congrArg (fun x => Ending.returned (Value.string x)) hs.out.symm, by first | exact hb5.out | exact hb5.out.alloc _ | exact hb5.out.drew | (have := hb5.out; (repeat (first | exact Stays.refl _ | (with_reducible refine Stays.drewN ?_ _) | (with_reducible refine Stays.alloc ?_ _) | (with_reducible refine Stays.drew ?_) | (refine Stays.trans ?_ ‹Stays _ _›))))⟩
end Go.Proofs.YtpccnejchbachaaDoor
