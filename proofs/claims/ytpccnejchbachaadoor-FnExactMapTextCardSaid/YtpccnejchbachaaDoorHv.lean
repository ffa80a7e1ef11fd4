/- Texts of rows of numbers, on both sides. No condition. -/
import Derived.Test.YtpccnejchbachaaDoorHx
import Derived.Lib.Join
namespace Go.Proofs.YtpccnejchbachaaDoor
open Go Go.ChangeShapes Go.WideShapes Go.RowKit
set_option linter.unusedVariables false
set_option linter.unusedSimpArgs false

/-- Numbers that lie one behind the other. -/
def Nums (w : World) (bk o : Nat) (xs : List Nat) : Prop := bk < w.heap.size ∧ ∀ j x, xs[j]? = some x → w.cell? ⟨bk, o + j, none⟩ = some (.float .f32 x)

theorem Nums.below {w w' : World} {bk o B : Nat} {xs : List Nat} (h : Nums w bk o xs) (hb : Below B w w') (hB : bk < B) : Nums w' bk o xs :=
  ⟨Nat.lt_of_lt_of_le h.1 hb.size, fun j x hx => (hb.cell (p := ⟨bk, o + j, none⟩) hB).trans (h.2 j x hx)⟩

def bl : List UInt8 := [32]
def hexB8 (x : Nat) : List UInt8 := (hexT (bitsOf x)).data.toList
def rowL (xs : List Nat) : List UInt8 := Lib.join (xs.map hexB8) bl
def rowT (xs : List Nat) : ByteArray := ⟨(rowL xs).toArray⟩

theorem rowL_snoc (xs : List Nat) (y : Nat) : rowL (xs ++ [y]) = (if xs.length = 0 then [] else rowL xs ++ bl) ++ hexB8 y := by
  cases xs with
  | nil => simp [rowL, Lib.join, List.intercalate]
  | cons x r =>
    unfold rowL
    simp only [List.cons_append, List.map_cons, List.map_append, List.map_nil, Lib.join_cons, Lib.joinTail, List.flatten_append, List.length_cons]
    simp

theorem ba_append (a b : ByteArray) : a ++ b = ⟨(a.data.toList ++ b.data.toList).toArray⟩ := by
  apply ByteArray.ext
  simp

theorem rowT_snoc (xs : List Nat) (y : Nat) : rowT (xs ++ [y]) = (if xs.length = 0 then ⟨#[]⟩ else rowT xs ++ ⟨#[32]⟩) ++ hexT (bitsOf y) := by
  unfold rowT
  rw [rowL_snoc]
  split
  · apply ByteArray.ext; simp [hexB8]
  · apply ByteArray.ext; simp [hexB8, bl]

theorem hexT_size (N : Nat) : (hexT N).size = 8 := by
  unfold hexT strOf hexL
  rfl

theorem rowT_size (xs : List Nat) : ∀ k, k ≤ xs.length → (rowT (xs.take k)).size ≤ 9 * k
  | 0, _ => Nat.le_refl _
  | k + 1, h => by
    have ih := rowT_size xs k (by omega)
    have hsn := rowT_snoc (xs.take k) xs[k]
    rw [List.length_take, Nat.min_eq_left (by omega), ← List.take_succ_eq_append_getElem h] at hsn
    rw [hsn, ByteArray.size_append, hexT_size]
    split
    · show 0 + 8 ≤ _; omega
    · rw [ByteArray.size_append]
      show _ + 1 + 8 ≤ _
      omega

set_option maxRecDepth 100000 in
set_option maxHeartbeats 400000 in
theorem c_l01Row (bk o c : Nat) (xs : List Nat) (w : World) (h : Nums w bk o xs) (hx : ∀ x ∈ xs, x < 4294967296) (hn : xs.length ≤ 100) :
    Calls Tryd.prog 80 #[.slice (some ⟨bk, o, none⟩) xs.length c] w fun e w' => e = .returned (.string (rowT xs)) ∧ Below w.heap.size w w' := by
  have H := Lib.hid h
  have HX := Lib.hid hx
  clear h hx
  go_enter Tryd.func80, Tryd.ntmps80
  go_wp2
  go_loopw [3, 4] (fun s i wr => ∃ k : Nat, k ≤ xs.length ∧ i = .int .i64 k ∧ s = .string (rowT (xs.take k)) ∧ Hid (Below w.heap.size w wr)) (fun _ i _ => xs.length - (intOf i).toNat)
  case atStart => exact ⟨0, Nat.zero_le _, rfl, rfl, Lib.hid (Below.refl _ _)⟩
  case round =>
    obtain ⟨k, hk, rfl, rfl, hb⟩ := hrel
    by_cases hlt : k < xs.length
    · have hlt' : (k : Int) < (xs.length : Int) := by omega
      have hxk : xs[k]? = some xs[k] := List.getElem?_eq_getElem hlt
      have hu := (H.out.below hb.out H.out.1).2 k _ hxk
      have kH := Lib.hid fun W => c_l01Hex xs[k] W (HX.out _ (List.getElem_mem hlt))
      have hsn := rowT_snoc (xs.take k) xs[k]
      rw [List.length_take, Nat.min_eq_left hk, ← List.take_succ_eq_append_getElem hlt] at hsn
      generalize xs[k] = x at hu kH hsn
      clear hxk
      by_cases h0 : k = 0
      · subst h0
        rw [Nat.add_zero] at hu
        have hh := hexT_size (bitsOf x)
        replace hsn : Hid (rowT (xs.take (0 + 1)) = rowT (xs.take 0) ++ hexT (bitsOf x)) := Lib.hid (by rw [hsn]; rfl)
        go_wp2_with fail
        refine (kH.out _).mono ?_
        rintro e w1 ⟨rfl, hb1⟩
        have hb2 := Lib.hid (hb.out.trans (hb1.mono hb.out.size))
        clear hb1 hu
        go_wp2
        go_round
        case rel => exact ⟨0 + 1, by omega, by go_num, by first | (rw [hsn.out]; rfl) | rw [hsn.out], hb2⟩
        case measure => simp [intOf]; omega
      · have h0' : (0 : Int) < (k : Int) := by omega
        rw [if_neg h0] at hsn
        replace hsn := Lib.hid hsn
        have hT := rowT_size xs k hk
        have hh := hexT_size (bitsOf x)
        generalize hexT (bitsOf x) = X at hsn hh kH ⊢
        generalize rowT (xs.take k) = T at hsn hT ⊢
        have hTX : (T ++ (⟨#[32]⟩ : ByteArray)).size = T.size + 1 := ByteArray.size_append
        go_wp2_with fail
        refine (kH.out _).mono ?_
        rintro e w1 ⟨rfl, hb1⟩
        have hb2 := Lib.hid (hb.out.trans (hb1.mono hb.out.size))
        clear hb1 hu
        go_wp2
        go_round
        case rel => exact ⟨k + 1, by omega, by go_num, by rw [hsn.out], hb2⟩
        case measure => simp [intOf]; omega
    · have e : k = xs.length := by omega
      subst e
      rw [List.take_length]
      go_wp2
      go_ret
      exact ⟨rfl, hb.out⟩
end Go.Proofs.YtpccnejchbachaaDoor
