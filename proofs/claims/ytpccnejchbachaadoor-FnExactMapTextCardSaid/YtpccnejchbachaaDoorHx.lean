/- The text of a number, on both sides. No condition. -/
import Derived.Test.YtpccnejchbachaaDoorGv
import Derived.Test.YtpccnejchbachaaDoorA1
namespace Go.Proofs.YtpccnejchbachaaDoor
open Go Go.ChangeShapes Go.WideShapes Go.RowKit
set_option linter.unusedVariables false
set_option linter.unusedSimpArgs false

theorem c_l01Bits (a : Nat) (w : World) :
    Calls Tryd.prog 79 #[.float .f32 a] w fun e w' => e = .returned (.int .u32 (bitsOf a)) ∧ w = w' := by
  have hn := neq_self .f32 a
  unfold bitsOf
  cases hc : can .f32 a with
  | none =>
    have h1 : (FloatKind.f32.format.order a a != some Ordering.eq) = true := by rw [hn, hc]; rfl
    clear hn hc
    go_enter Tryd.func79, Tryd.ntmps79
    go_wp2
    go_ret
    exact ⟨rfl, rfl⟩
  | some b =>
    have h1 : (FloatKind.f32.format.order a a != some Ordering.eq) = false := by rw [hn, hc]; rfl
    obtain ⟨rfl, _⟩ := can_some hc
    clear hn hc
    go_enter Tryd.func79, Tryd.ntmps79
    go_wp2
    go_ret
    exact ⟨rfl, rfl⟩

/-- A digit, and the bytes of a number's text: the last ones first. -/
def dig (n : Nat) : Nat := if n < 10 then 48 + n else 87 + n
def hexB (N j i : Nat) : Int := if 8 ≤ i + j then (dig (N / 16 ^ (7 - i) % 16) : Nat) else 0
def hexL (N j : Nat) : List Int := [hexB N j 0, hexB N j 1, hexB N j 2, hexB N j 3, hexB N j 4, hexB N j 5, hexB N j 6, hexB N j 7]
def hexA (N j : Nat) : Array Value := ((hexL N j).map fun x => Value.int .u8 x).toArray
def strOf (xs : List Int) : ByteArray := xs.foldl (fun r n => r.push (UInt8.ofNat n.toNat)) ByteArray.empty
def hexT (N : Nat) : ByteArray := strOf (hexL N 8)

theorem hexA_set (N j : Nat) (h : j < 8) : (hexA N j).setIfInBounds (7 - j) (.int .u8 (dig (N / 16 ^ j % 16) : Nat)) = hexA N (j + 1) := by
  rcases (show j = 0 ∨ j = 1 ∨ j = 2 ∨ j = 3 ∨ j = 4 ∨ j = 5 ∨ j = 6 ∨ j = 7 from by omega) with rfl | rfl | rfl | rfl | rfl | rfl | rfl | rfl <;> rfl

theorem hexA_zero (N : Nat) : hexA N 0 = #[.int .u8 0, .int .u8 0, .int .u8 0, .int .u8 0, .int .u8 0, .int .u8 0, .int .u8 0, .int .u8 0] := rfl

theorem dig_at (r : Nat) (h : r < (⟨#[48, 49, 50, 51, 52, 53, 54, 55, 56, 57, 97, 98, 99, 100, 101, 102]⟩ : ByteArray).size) : ((⟨#[48, 49, 50, 51, 52, 53, 54, 55, 56, 57, 97, 98, 99, 100, 101, 102]⟩ : ByteArray)[r]'h).toNat = dig r := by
  have hr : r < 16 := h
  rcases (show r = 0 ∨ r = 1 ∨ r = 2 ∨ r = 3 ∨ r = 4 ∨ r = 5 ∨ r = 6 ∨ r = 7 ∨ r = 8 ∨ r = 9 ∨ r = 10 ∨ r = 11 ∨ r = 12 ∨ r = 13 ∨ r = 14 ∨ r = 15 from by omega) with rfl | rfl | rfl | rfl | rfl | rfl | rfl | rfl | rfl | rfl | rfl | rfl | rfl | rfl | rfl | rfl <;> rfl

/-- A block of eight bytes that is being filled. -/
structure HexW (w wr : World) (t : TypeId) (N j : Nat) : Prop where
  row : wr.heap[w.heap.size]? = some (.cells (hexA N j) t (0, 0))
  below : Below w.heap.size w wr

theorem HexW.next {w wr : World} {t : TypeId} {N j : Nat} (h : HexW w wr t N j) (hj : j < 8) : HexW w (wr.setCell ⟨w.heap.size, 7 - j, none⟩ (.int .u8 (dig (N / 16 ^ j % 16) : Nat))) t N (j + 1) :=
  ⟨by rw [← hexA_set N j hj]; exact heap_setCell_same wr _ _ _ _ _ h.row, h.below.setCell (Nat.le_refl _) _⟩

theorem HexW.cell {w wr : World} {t : TypeId} {N j : Nat} (h : HexW w wr t N j) (i : Nat) : wr.cell? ⟨w.heap.size, i, none⟩ = (hexA N j)[i]? := cell_of_row _ _ _ _ _ _ h.row
theorem HexW.froz {w wr : World} {t : TypeId} {N j : Nat} (h : HexW w wr t N j) (i : Nat) : wr.frozen? ⟨w.heap.size, i, none⟩ = false := frozen_of_row _ _ _ _ _ h.row

theorem hex_string {w wr : World} {t : TypeId} {N : Nat} (h : HexW w wr t N 8) :
    (convert 68 9 (.slice (some ⟨w.heap.size, 0, none⟩) 8 8)).run Tryd.prog wr = .ok (.string (hexT N)) wr := by
  rw [run_convert_bytes_string wr 68 9 5 _ 8 8 Tryd.underlying68 Tryd.underlying5 Tryd.underlying9]
  refine run_bytesToString wr ⟨w.heap.size, 0, none⟩ 8 8 (hexL N 8) ?_
  have := run_loadCells_list (P := Tryd.prog) (w := wr) ⟨w.heap.size, 0, none⟩ ((hexL N 8).map (Value.int .u8)) (fun j v hv => by
    have := h.cell j
    rw [show (hexA N 8)[j]? = some v from by simpa [hexA] using hv] at this
    cases j with
    | zero => exact this
    | succ j => simpa [cellAt, Addr.add] using this)
  exact this

theorem lt_pow (N : Nat) (h : N < 4294967296) (j : Nat) : N / 16 ^ j < 4294967296 := Nat.lt_of_le_of_lt (Nat.div_le_self _ _) h
theorem bits_lt {a : Nat} (ha : a < 4294967296) : bitsOf a < 4294967296 := by
  unfold bitsOf
  cases h : can .f32 a with
  | none => decide
  | some c =>
    obtain ⟨rfl, _⟩ := can_some h
    exact ha
theorem div_pow (N j : Nat) : N / 16 ^ j / 16 = N / 16 ^ (j + 1) := by rw [Nat.div_div_eq_div_mul, Nat.pow_succ]

set_option maxRecDepth 100000 in
set_option maxHeartbeats 400000 in
theorem c_l01Hex (a : Nat) (w : World) (ha : a < 4294967296) :
    Calls Tryd.prog 53 #[.float .f32 a] w fun e w' => e = .returned (.string (hexT (bitsOf a))) ∧ Below w.heap.size w w' := by
  have kB := Lib.hid fun W => c_l01Bits a W
  have hN := bits_lt ha
  generalize bitsOf a = N at kB hN ⊢
  replace hN := Lib.hid hN
  obtain ⟨i0, hi0, hz0, hz1, hz2⟩ := info_parts (show (Tryd.prog.info? 5).map (fun i => (i.zero, i.size, i.bytes)) = some (some (.int .u8 0), 1, 1) from by kernel_rfl)
  have hmk : ∀ u : World, (Instr.makeSlice 68 (.int .i64 8) (.int .i64 8)).run Tryd.prog u = .ok (.slice (some ⟨u.heap.size, 0, none⟩) 8 8) (u.alloc (.cells (hexA N 0) 5)) := fun u => by
    have := run_make (P := Tryd.prog) u 68 5 i0 _ Tryd.underlying68 hi0 hz0 .i64 .i64 8 8 (by omega) (Int.le_refl _) (by rw [hz2]; omega) (by omega)
    rw [this, hz1, show madeCells (Value.int .u8 0).cells (Int.toNat 8 * 1) = hexA N 0 from Array.toList_inj.1 ((toList_madeCells_one _ _).trans rfl)]
    rfl
  go_enter Tryd.func53, Tryd.ntmps53
  go_wp2_with fail
  refine (kB.out _).mono ?_
  rintro e w1 ⟨rfl, rfl⟩
  go_wp2
  go_loopw [3, 5] (fun b k wr => ∃ j : Nat, j ≤ 8 ∧ k = .int .i64 (7 - (j : Int)) ∧ b = .int .u32 (N / 16 ^ j : Nat) ∧ Hid (HexW w wr 5 N j)) (fun _ k _ => ((intOf k) + 1).toNat)
  case atStart => exact ⟨0, Nat.zero_le _, rfl, by simp, Lib.hid ⟨heap_alloc_new _ _, (Below.refl _ _).alloc (Nat.le_refl _) _⟩⟩
  case round =>
    obtain ⟨j, hj, rfl, rfl, hw⟩ := hrel
    by_cases hlt : j < 8
    · have hnx := Lib.hid (hw.out.next hlt)
      have hb := lt_pow N hN.out j
      have hdv := Lib.hid (div_pow N j)
      have e7 : ((7 : Int) - (j : Int)) = ((7 - j : Nat) : Int) := by omega
      have hlt' : (j : Int) < 8 := by omega
      have hu0 : wr.cell? ⟨w.heap.size, 7 - j, none⟩ = some (.int .u8 (hexB N j (7 - j))) := by
        rw [hw.out.cell]
        rcases (show j = 0 ∨ j = 1 ∨ j = 2 ∨ j = 3 ∨ j = 4 ∨ j = 5 ∨ j = 6 ∨ j = 7 from by omega) with rfl | rfl | rfl | rfl | rfl | rfl | rfl | rfl <;> rfl
      have hf0 := hw.out.froz (7 - j)
      generalize hexB N j (7 - j) = u0 at hu0
      generalize N / 16 ^ j = b at hb hnx hdv ⊢
      go_wp2
      go_round
      case rel =>
        refine ⟨j + 1, by omega, by go_num, ?_, ?_⟩
        · rw [← hdv.out]; rfl
        · rw [dig_at]; exact hnx
      case measure => simp [intOf]; omega
    · have e : j = 8 := by omega
      subst e
      have hstr := hex_string hw.out
      have e7 : ¬ ((0 : Int) ≤ 7 - ((8 : Nat) : Int)) := by omega
      go_wp2
      go_ret
      exact ⟨rfl, hw.out.below⟩

set_option maxRecDepth 100000 in
set_option maxHeartbeats 400000 in
theorem c_NumberText (a : Nat) (w : World) (ha : a < 4294967296) :
    Calls Tryd.prog 31 #[.float .f32 a] w fun e w' => e = .returned (.string (hexT (bitsOf a))) ∧ Below w.heap.size w w' := by
  have kB := Lib.hid fun W => c_numberBits a W
  have hN := bits_lt ha
  generalize bitsOf a = N at kB hN ⊢
  replace hN := Lib.hid hN
  go_enter Tryd.func31, Tryd.ntmps31
  go_wp2_with fail
  refine (kB.out _).mono ?_
  rintro e w1 ⟨rfl, rfl⟩
  go_wp2
  go_loopw [3, 8] (fun b k wr => ∃ j : Nat, j ≤ 8 ∧ k = .int .i64 (j : Int) ∧ b = .int .u32 (N / 16 ^ j : Nat) ∧ Hid (HexW w wr 114 N j)) (fun _ k _ => 8 - (intOf k).toNat)
  case atStart => exact ⟨0, Nat.zero_le _, rfl, by simp, Lib.hid ⟨heap_alloc_new _ _, (Below.refl _ _).alloc (Nat.le_refl _) _⟩⟩
  case round =>
    obtain ⟨j, hj, rfl, rfl, hw⟩ := hrel
    by_cases hlt : j < 8
    · have hnx := Lib.hid (hw.out.next hlt)
      have hb := lt_pow N hN.out j
      have hdv := Lib.hid (div_pow N j)
      have e7 : ((7 : Int) - (j : Int)) = ((7 - j : Nat) : Int) := by omega
      have hlt' : (j : Int) < 8 := by omega
      have hu0 : wr.cell? ⟨w.heap.size, 7 - j, none⟩ = some (.int .u8 (hexB N j (7 - j))) := by
        rw [hw.out.cell]
        rcases (show j = 0 ∨ j = 1 ∨ j = 2 ∨ j = 3 ∨ j = 4 ∨ j = 5 ∨ j = 6 ∨ j = 7 from by omega) with rfl | rfl | rfl | rfl | rfl | rfl | rfl | rfl <;> rfl
      have hf0 := hw.out.froz (7 - j)
      generalize hexB N j (7 - j) = u0 at hu0
      generalize N / 16 ^ j = b at hb hnx hdv ⊢
      go_wp2
      go_round
      case rel =>
        refine ⟨j + 1, by omega, by go_num, ?_, ?_⟩
        · rw [← hdv.out]; rfl
        · rw [dig_at]; exact hnx
      case measure => simp [intOf]; omega
    · have e : j = 8 := by omega
      subst e
      have hstr := hex_string hw.out
      go_wp2
      go_ret
      exact ⟨rfl, hw.out.below⟩

end Go.Proofs.YtpccnejchbachaaDoor
