/- Grids: whether two are the same, on both sides. No condition. -/
import Derived.Test.YtdahlpljgcibfaaGdB
import Derived.Laws.BytesString
import Derived.WalkLawsBesides
namespace Go.Proofs.Ytdahlpljgcibfaa
open Go Go.RowKit
set_option linter.unusedVariables false
set_option linter.unusedSimpArgs false

def InB (xs : List Int) : Prop := ∀ x ∈ xs, 0 ≤ x ∧ x ≤ 255

def strOf (xs : List Int) : ByteArray := xs.foldl (fun r n => r.push (UInt8.ofNat n.toNat)) ByteArray.empty

theorem fold_push : ∀ (xs : List Int) (s : ByteArray), (xs.foldl (fun r n => r.push (UInt8.ofNat n.toNat)) s).data.toList = s.data.toList ++ xs.map fun n => UInt8.ofNat n.toNat
  | [], s => by simp
  | x :: xs, s => by
    rw [List.foldl_cons, fold_push xs]
    simp [ByteArray.push]

theorem strOf_data (xs : List Int) : (strOf xs).data.toList = xs.map fun n => UInt8.ofNat n.toNat := by
  unfold strOf
  rw [fold_push]
  rfl

theorem strOf_inj {xs ys : List Int} (hx : InB xs) (hy : InB ys) (h : strOf xs = strOf ys) : xs = ys := by
  have h2 : xs.map (fun n => UInt8.ofNat n.toNat) = ys.map fun n => UInt8.ofNat n.toNat := by rw [← strOf_data, ← strOf_data, h]
  clear h
  induction xs generalizing ys with
  | nil => cases ys with
    | nil => rfl
    | cons y ys => simp at h2
  | cons x xs ih => cases ys with
    | nil => simp at h2
    | cons y ys =>
      simp only [List.map_cons, List.cons.injEq] at h2
      have h1 := congrArg UInt8.toNat h2.1
      have hx0 := hx x (by simp)
      have hy0 := hy y (by simp)
      have e1 : (UInt8.ofNat x.toNat).toNat = x.toNat := by rw [UInt8.toNat_ofNat']; exact Nat.mod_eq_of_lt (by omega)
      have e2 : (UInt8.ofNat y.toNat).toNat = y.toNat := by rw [UInt8.toNat_ofNat']; exact Nat.mod_eq_of_lt (by omega)
      rw [e1, e2] at h1
      have : x = y := by omega
      subst this
      rw [ih (fun z hz => hx z (by simp [hz])) (fun z hz => hy z (by simp [hz])) h2.2]

theorem bytes_string {w : World} {B : Nat} {A : Option Addr} {xs : List Int} (c : Nat) (h : Bs w B A xs) :
    (convert 22 9 (.slice A xs.length c)).run Try.prog w = .ok (.string (strOf xs)) w := by
  rw [run_convert_bytes_string w 22 9 5 A xs.length c Try.underlying22 Try.underlying5 Try.underlying9]
  cases A with
  | none =>
    have : xs = [] := by
      cases xs with
      | nil => rfl
      | cons x xs => obtain ⟨ad, e, _⟩ := h 0 x rfl; cases e
    subst this
    rfl
  | some ad =>
    refine run_bytesToString w ad xs.length c xs ?_
    have := run_loadCells_list (P := Try.prog) (w := w) ad (xs.map (Value.int .u8)) (fun j v hv => by
      rw [List.getElem?_map] at hv
      cases e : xs[j]? with
      | none => rw [e] at hv; cases hv
      | some x =>
        rw [e] at hv
        cases hv
        obtain ⟨ad', ea, _, hc⟩ := h.at_ e
        cases ea
        exact hc)
    rw [List.length_map] at this
    exact this

set_option maxRecDepth 100000 in
set_option maxHeartbeats 400000 in
theorem c_equalB (A A' : Option Addr) (c c' : Nat) (xs ys : List Int) (w : World) (h : Bs w w.heap.size A xs) (h' : Bs w w.heap.size A' ys) (hn : xs.length ≤ 1048576) (hm : ys.length ≤ 1048576) :
    Calls Try.prog 52 #[.slice A xs.length c, .slice A' ys.length c'] w fun e w' => e = .returned (.bool (decide (xs = ys))) ∧ Below w.heap.size w w' := by
  have H := Lib.hid h
  have H' := Lib.hid h'
  clear h h'
  by_cases hl : xs.length = ys.length
  · have hl' : ((xs.length : Nat) : Int) = ((ys.length : Nat) : Int) := by omega
    have HL := Lib.hid hl
    rw [hl]
    clear hl
    go_enter Try.func52, Try.ntmps52
    clear hl'
    go_wp2
    go_loopw [13] (fun i wr => ∃ k : Nat, k ≤ ys.length ∧ i = .int .i64 k ∧ Hid (Below w.heap.size w wr) ∧ Hid (∀ j, j < k → xs[j]? = ys[j]?)) (fun i _ => ys.length - (intOf i).toNat)
    case atStart => exact ⟨0, Nat.zero_le _, rfl, Lib.hid (Below.refl _ _), Lib.hid fun j hj => by omega⟩
    case round =>
      obtain ⟨k, hk, rfl, hb, hg⟩ := hrel
      by_cases hlt : k < ys.length
      · have hx : xs[k]? = some (xs[k]'(by rw [HL.out]; exact hlt)) := List.getElem?_eq_getElem _
        have hy : ys[k]? = some ys[k] := List.getElem?_eq_getElem hlt
        obtain ⟨ad, rfl, _, hc⟩ := Bs.at_ (H.out.below hb.out) hx
        obtain ⟨ad', rfl, _, hc'⟩ := Bs.at_ (H'.out.below hb.out) hy
        generalize xs[k]'(by rw [HL.out]; exact hlt) = x at hc hx
        generalize ys[k] = y at hc' hy
        have hlt' : (k : Int) < (ys.length : Int) := by omega
        have hx := Lib.hid hx
        have hy := Lib.hid hy
        by_cases he : x = y
        · subst he
          have hnx : Hid (∀ j, j < k + 1 → xs[j]? = ys[j]?) := Lib.hid fun j hj => by
            by_cases e : j = k
            · subst e; rw [hx.out, hy.out]
            · exact hg.out j (by omega)
          go_wp2
          go_region
          go_wp2
          go_round
          case rel => exact ⟨k + 1, by omega, by go_num, Lib.hid hb.out.drew, hnx⟩
          case measure => simp [intOf]; omega
        · have hne : Hid (decide (xs = ys) = false) := Lib.hid (decide_eq_false fun e => by
            subst e
            have := hx.out.symm.trans hy.out
            cases this
            exact he rfl)
          go_wp2
          go_region
          go_wp2
          go_ret
          exact ⟨ret_b (by rw [hne.out]), hb.out.drew⟩
      · have he : Hid (decide (xs = ys) = true) := Lib.hid (decide_eq_true (List.ext_getElem? fun j => by
          by_cases hj : j < k
          · exact hg.out j hj
          · rw [List.getElem?_eq_none (by have := HL.out; omega), List.getElem?_eq_none (by omega)]))
        go_wp2
        go_ret
        exact ⟨ret_b (by rw [he.out]), hb.out⟩
  · have he : Hid (decide (xs = ys) = false) := Lib.hid (decide_eq_false fun e => hl (by rw [e]))
    have hl' : ¬ ((xs.length : Nat) : Int) = ((ys.length : Nat) : Int) := by omega
    go_enter Try.func52, Try.ntmps52
    go_wp2
    go_ret
    exact ⟨ret_b (by rw [he.out]), Below.refl _ _⟩

def sameG (a b a' b' : Int) (xs ys : List Int) : Bool := decide (a = a') && decide (b = b') && decide (xs = ys)

theorem beq_bytes (s s' : ByteArray) : (s.toList == s'.toList) = decide (s = s') := by
  rw [ByteArray.toList_eq, ByteArray.toList_eq]
  by_cases h : s = s'
  · subst h; simp
  · rw [decide_eq_false h]
    exact beq_eq_false_iff_ne.2 fun e => h (Go.WideShapes.bytes_inj e)

theorem sameG_str {a b a' b' : Int} {xs ys : List Int} (hx : InB xs) (hy : InB ys) : sameG a b a' b' xs ys = (decide (a = a') && decide (b = b') && decide (strOf xs = strOf ys)) := by
  unfold sameG
  congr 1
  by_cases h : xs = ys
  · subst h; simp
  · rw [decide_eq_false h, decide_eq_false fun e => h (strOf_inj hx hy e)]

set_option maxRecDepth 100000 in
set_option maxHeartbeats 1000000 in
theorem c_specSameGrid (v v' : Value) (a b a' b' : Int) (xs ys : List Int) (w : World) (h : GdV w w.heap.size v a b xs) (h' : GdV w w.heap.size v' a' b' ys) (hx : InB xs) (hy : InB ys) :
    Calls Try.prog 19 #[v, v'] w fun e w' => e = .returned (.bool (sameG a b a' b' xs ys)) ∧ Below w.heap.size w w' := by
  obtain ⟨A, c, rfl, h1⟩ := h.val
  obtain ⟨A', c', rfl, h2⟩ := h'.val
  rw [sameG_str hx hy]
  have hst : Stays w ((w.alloc (.cells #[.int .i64 a, .int .i64 b, .slice A xs.length c] 27)).alloc (.cells #[.int .i64 a', .int .i64 b', .slice A' ys.length c'] 27)) := by (repeat (first | exact Stays.refl _ | (with_reducible refine Stays.drewN ?_ _) | (with_reducible refine Stays.alloc ?_ _) | (with_reducible refine Stays.drew ?_) | (refine Stays.trans ?_ ‹Stays _ _›)))
  have s1 := bytes_string c (h1.below hst)
  have s2 := bytes_string c' (h2.below hst)
  generalize strOf xs = s at s1 ⊢
  generalize strOf ys = s' at s2 ⊢
  replace hst := Lib.hid hst
  clear h h' h1 h2 hx hy
  by_cases ha : a = a'
  · subst ha
    by_cases hb : b = b'
    · subst hb
      go_enter Try.func19, Try.ntmps19
      go_wp2
      go_ret
      exact ⟨ret_b (by simp [beq_bytes]), hst.out⟩
    · go_enter Try.func19, Try.ntmps19
      go_wp2
      go_ret
      exact ⟨ret_b (by simp [hb]), hst.out⟩
  · go_enter Try.func19, Try.ntmps19
    go_wp2
    go_ret
    exact ⟨ret_b (by simp [ha]), hst.out⟩

set_option maxRecDepth 100000 in
set_option maxHeartbeats 1000000 in
theorem c_implSameGrid (v v' : Value) (a b a' b' : Int) (xs ys : List Int) (w : World) (h : GdV w w.heap.size v a b xs) (h' : GdV w w.heap.size v' a' b' ys) (hn : xs.length ≤ 1048576) (hm : ys.length ≤ 1048576) :
    Calls Try.prog 20 #[v, v'] w fun e w' => e = .returned (.bool (sameG a b a' b' xs ys)) ∧ Below w.heap.size w w' := by
  obtain ⟨A, c, rfl, h1⟩ := h.val
  obtain ⟨A', c', rfl, h2⟩ := h'.val
  have hst : Stays w ((w.alloc (.cells #[.int .i64 a, .int .i64 b, .slice A xs.length c] 27)).alloc (.cells #[.int .i64 a', .int .i64 b', .slice A' ys.length c'] 27)) := by (repeat (first | exact Stays.refl _ | (with_reducible refine Stays.drewN ?_ _) | (with_reducible refine Stays.alloc ?_ _) | (with_reducible refine Stays.drew ?_) | (refine Stays.trans ?_ ‹Stays _ _›)))
  have k := c_equalB A A' c c' xs ys _ ((h1.below hst).more hst.size) ((h2.below hst).more hst.size) hn hm
  unfold sameG
  generalize decide (xs = ys) = q at k ⊢
  replace k := Lib.hid k
  replace hst := Lib.hid hst
  clear h h' h1 h2
  by_cases ha : a = a'
  · subst ha
    by_cases hb : b = b'
    · subst hb
      go_enter Try.func20, Try.ntmps20
      go_wp2_with (go_at_call 52; refine k.out.mono ?_; rintro e w1 ⟨rfl, hw1⟩)
      go_ret
      exact ⟨ret_b (by simp), hst.out.trans hw1⟩
    · go_enter Try.func20, Try.ntmps20
      go_wp2
      go_ret
      exact ⟨ret_b (by simp [hb]), hst.out⟩
  · go_enter Try.func20, Try.ntmps20
    go_wp2
    go_ret
    exact ⟨ret_b (by simp [ha]), hst.out⟩
end Go.Proofs.Ytdahlpljgcibfaa
