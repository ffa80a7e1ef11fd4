/- The text of a grid: characters, prefixes, the document's side. No condition. -/
import Derived.Test.YtjggecboimdpdaaHx
import Derived.Test.YtjggecboimdpdaaGeC
import Derived.Test.YtjggecboimdpdaaSh
import Derived.Lib.Builder
import Derived.OwnWalk
import Derived.Deep.AppendLies
namespace Go.Proofs.Ytjggecboimdpdaa
open Go Go.ChangeShapes Go.WideShapes Go.RowKit
set_option linter.unusedVariables false
set_option linter.unusedSimpArgs false

def sgn (x : Int) : Nat := if x = 0 then 46 else if x = 255 then 35 else if x % 10 = 0 ∧ x ≤ 90 then (48 + x / 10).toNat else 63

theorem sgn_lt (x : Int) : sgn x < 256 := by
  unfold sgn
  split
  · omega
  · split
    · omega
    · split <;> omega

theorem c_l07Sign (x : Int) (w : World) (hx : 0 ≤ x ∧ x ≤ 255) : Calls Try.prog 75 #[.int .u8 x] w fun e w' => e = .returned (.int .u8 (sgn x)) ∧ w = w' := by
  by_cases h2 : x % 10 = 0 ∧ x ≤ 90
  · rcases (show x = 0 ∨ x = 10 ∨ x = 20 ∨ x = 30 ∨ x = 40 ∨ x = 50 ∨ x = 60 ∨ x = 70 ∨ x = 80 ∨ x = 90 from by omega) with rfl | rfl | rfl | rfl | rfl | rfl | rfl | rfl | rfl | rfl
    all_goals
      clear hx h2
      go_enter Try.func75, Try.ntmps75
      go_wp2
      go_ret
      exact ⟨rfl, rfl⟩
  · by_cases h1 : x = 255
    · subst h1
      clear hx h2
      go_enter Try.func75, Try.ntmps75
      go_wp2
      go_ret
      exact ⟨rfl, rfl⟩
    · have h0 : ¬ x = 0 := fun e => h2 (by omega)
      have e : sgn x = 63 := by unfold sgn; rw [if_neg h0, if_neg h1, if_neg h2]
      rw [e]
      clear e
      by_cases h3 : x % 10 = 0
      · have h4 : ¬ x ≤ 90 := fun e => h2 ⟨h3, e⟩
        clear h2
        go_enter Try.func75, Try.ntmps75
        go_wp2
        go_ret
        exact ⟨rfl, rfl⟩
      · clear h2
        go_enter Try.func75, Try.ntmps75
        go_wp2
        go_ret
        exact ⟨rfl, rfl⟩

theorem c_costMark (x : Int) (w : World) (hx : 0 ≤ x ∧ x ≤ 255) : Calls Try.prog 59 #[.int .u8 x] w fun e w' => e = .returned (.int .u8 (sgn x)) ∧ w = w' := by
  by_cases h2 : x % 10 = 0 ∧ x ≤ 90
  · rcases (show x = 0 ∨ x = 10 ∨ x = 20 ∨ x = 30 ∨ x = 40 ∨ x = 50 ∨ x = 60 ∨ x = 70 ∨ x = 80 ∨ x = 90 from by omega) with rfl | rfl | rfl | rfl | rfl | rfl | rfl | rfl | rfl | rfl
    all_goals
      clear hx h2
      go_enter Try.func59, Try.ntmps59
      go_wp2
      go_ret
      exact ⟨rfl, rfl⟩
  · by_cases h1 : x = 255
    · subst h1
      clear hx h2
      go_enter Try.func59, Try.ntmps59
      go_wp2
      go_ret
      exact ⟨rfl, rfl⟩
    · have h0 : ¬ x = 0 := fun e => h2 (by omega)
      have e : sgn x = 63 := by unfold sgn; rw [if_neg h0, if_neg h1, if_neg h2]
      rw [e]
      clear e
      by_cases h3 : x % 10 = 0
      · have h4 : (10 : Int) ≤ x / 10 := by have : ¬ x ≤ 90 := fun e => h2 ⟨h3, e⟩; omega
        clear h2
        go_enter Try.func59, Try.ntmps59
        go_wp2
        go_ret
        exact ⟨rfl, rfl⟩
      · clear h2
        go_enter Try.func59, Try.ntmps59
        go_wp2
        go_ret
        exact ⟨rfl, rfl⟩

def sgB (x : Int) : UInt8 := UInt8.ofNat (sgn x)
theorem sgB_nat (x : Int) : (sgB x).toNat = sgn x := by
  unfold sgB
  rw [UInt8.toNat_ofNat']
  exact Nat.mod_eq_of_lt (sgn_lt x)

/-- The text of the first costs, a new line behind each row. -/
def gtx (W : Nat) (xs : List Int) : Nat → List UInt8
  | 0 => []
  | k + 1 => (gtx W xs k ++ ((xs[k]?).map sgB).toList) ++ (if (k + 1) % W = 0 then [10] else [])

theorem gtx_len (W : Nat) (xs : List Int) : ∀ k, (gtx W xs k).length ≤ 2 * k
  | 0 => Nat.le_refl _
  | k + 1 => by
    have := gtx_len W xs k
    unfold gtx
    rw [List.length_append, List.length_append]
    have h1 : ((xs[k]?).map sgB).toList.length ≤ 1 := by cases xs[k]? <;> simp
    have h2 : (if (k + 1) % W = 0 then ([10] : List UInt8) else []).length ≤ 1 := by split <;> simp
    omega

/-- A row of bytes that a call makes. -/
structure GrowB (B : Nat) (w : World) (v : Value) (l : List UInt8) : Prop where
  own : w.ownsRow B 5 1 v l.length (Lib.byteCells l)

theorem GrowB.made {B : Nat} (w : World) (hB : B ≤ w.heap.size) : GrowB B (w.alloc (.cells #[] 5)) (.slice (some ⟨w.heap.size, 0, none⟩) 0 0) [] := ⟨World.ownsRow_made w #[] 0 hB (Nat.zero_le _) rfl⟩
theorem GrowB.form {B : Nat} {w : World} {v : Value} {l : List UInt8} (h : GrowB B w v l) : ∃ ao cv, v = .slice ao l.length cv := by
  rcases h.own.2 with ⟨rfl, h0⟩ | ⟨g, cap, cur, rfl, _⟩
  · exact ⟨none, 0, by rw [h0]⟩
  · exact ⟨_, _, rfl⟩

theorem byteCells_at {l : List UInt8} {j : Nat} {u : Value} (h : (Lib.byteCells l)[j]? = some u) : ∃ b, l[j]? = some b ∧ u = .int .u8 (b.toNat : Int) := by
  unfold Lib.byteCells at h
  rw [List.getElem?_map] at h
  cases e : l[j]? with
  | none => rw [e] at h; cases h
  | some b => rw [e] at h; cases h; exact ⟨b, rfl, rfl⟩

theorem strOf_bytes (l : List UInt8) : strOf (l.map fun b => (b.toNat : Int)) = ⟨l.toArray⟩ := by
  have h : ∀ (l : List UInt8) (a : ByteArray), (l.map fun b => (b.toNat : Int)).foldl (fun r n => r.push (UInt8.ofNat n.toNat)) a = ⟨(a.data.toList ++ l).toArray⟩ := by
    intro l
    induction l with
    | nil => intro a; simp
    | cons x r ih =>
      intro a
      rw [List.map_cons, List.foldl_cons, ih]
      apply ByteArray.ext
      simp
  unfold strOf
  rw [h]
  rfl

theorem GrowB.string {B : Nat} {w : World} {v : Value} {l : List UInt8} (h : GrowB B w v l) : (convert 51 9 v).run Try.prog w = .ok (.string ⟨l.toArray⟩) w := by
  rcases h.own.2 with ⟨rfl, h0⟩ | ⟨g, cap, cur, rfl, hb, hg, hn, hc, hs, ht⟩
  · have : l = [] := List.eq_nil_of_length_eq_zero h0
    subst this
    rw [run_convert_bytes_string w 51 9 5 none 0 0 Try.underlying51 Try.underlying5 Try.underlying9]
    rfl
  · rw [run_convert_bytes_string w 51 9 5 _ _ _ Try.underlying51 Try.underlying5 Try.underlying9, ← strOf_bytes]
    refine run_bytesToString w ⟨g, 0, none⟩ l.length cap (l.map fun b => (b.toNat : Int)) ?_
    have := run_loadCells_list (P := Try.prog) (w := w) ⟨g, 0, none⟩ (Lib.byteCells l) (fun j u hu => by
      have e : w.cell? ⟨g, j, none⟩ = some u := by
        rw [cell_of_row _ _ _ _ _ _ hg]
        have hj := (List.getElem?_eq_some_iff.1 hu).1
        have h1 := hu
        rw [← ht, List.getElem?_take_of_lt (by have : (Lib.byteCells l).length = l.length := List.length_map ..; omega)] at h1
        simpa using h1
      cases j with
      | zero => exact e
      | succ j => simpa [cellAt, Addr.add] using e)
    rw [show (Lib.byteCells l).length = l.length from List.length_map ..] at this
    rw [List.map_map]
    exact this

theorem one_u8 (n : Int) : ∀ u ∈ [Value.int .u8 n], u.oneCell' = true := by
  intro u hu
  rw [List.mem_singleton.1 hu]
  rfl
end Go.Proofs.Ytjggecboimdpdaa
