/- Lists of rows that grow; the spots of straight lines, by number. No condition. -/
import Derived.Test.YteidjmliepmlmaaGhC
import Derived.Deep.AppendLies
namespace Go.Proofs.Yteidjmliepmlmaa
open Go Go.RowKit
set_option linter.unusedVariables false
set_option linter.unusedSimpArgs false

def RIn (K : List Kd) : List (List Value) → List (List NV) → Prop
  | [], [] => True
  | c :: cs, m :: ms => KMs K c m ∧ RIn K cs ms
  | _, _ => False

theorem RIn.snoc {K : List Kd} : ∀ {css : List (List Value)} {xs : List (List NV)} {c : List Value} {m : List NV}, RIn K css xs → KMs K c m → RIn K (css ++ [c]) (xs ++ [m])
  | [], [], _, _, _, h => ⟨h, trivial⟩
  | c :: cs, m :: ms, _, _, ⟨h1, h2⟩, h => ⟨h1, h2.snoc h⟩
  | [], _ :: _, _, _, h, _ => h.elim
  | _ :: _, [], _, _, h, _ => h.elim

theorem RIn.at_ {K : List Kd} {n : Nat} (hn : K.length = n) : ∀ {css : List (List Value)} {xs : List (List NV)}, RIn K css xs → ∀ {i : Nat} {m : List NV}, xs[i]? = some m → ∃ cs, KMs K cs m ∧ ∀ j u, cs[j]? = some u → css.flatten[i * n + j]? = some u
  | [], [], _, i, m, h => by simp at h
  | c :: cs, x :: xs, ⟨h1, h2⟩, 0, m, h => by
    cases h
    refine ⟨c, h1, fun j u hu => ?_⟩
    have hj := (List.getElem?_eq_some_iff.1 hu).1
    rw [List.flatten_cons, Nat.zero_mul, Nat.zero_add, List.getElem?_append_left hj]
    exact hu
  | c :: cs, x :: xs, ⟨h1, h2⟩, i + 1, m, h => by
    obtain ⟨cs', hk, hat⟩ := RIn.at_ hn h2 (i := i) (m := m) (by simpa using h)
    refine ⟨cs', hk, fun j u hu => ?_⟩
    have hl : c.length = n := (KMs_len h1).trans hn
    rw [List.flatten_cons, List.getElem?_append_right (by rw [hl, Nat.add_mul]; omega)]
    rw [show (i + 1) * n + j - c.length = i * n + j from by rw [hl, Nat.add_mul]; omega]
    exact hat j u hu

/-- A list of rows that grows in a block from B on. -/
structure GrowL (K : List Kd) (n : Nat) (t : TypeId) (B : Nat) (w : World) (v : Value) (xs : List (List NV)) : Prop where
  own : ∃ css : List (List Value), w.ownsRow B t n v xs.length css.flatten ∧ RIn K css xs

section
variable {K : List Kd} {n : Nat} {t : TypeId} {B : Nat} {w w' : World} {v : Value} {xs : List (List NV)}
theorem GrowL.nil (K : List Kd) (n : Nat) (t : TypeId) (B : Nat) (w : World) : GrowL K n t B w (.slice none 0 0) [] := ⟨[], World.ownsRow_nil _ _ _ _, trivial⟩
theorem GrowL.made (K : List Kd) (n : Nat) (t : TypeId) {B : Nat} (w : World) {H : Nat} (hH : w.heap.size = H) (hB : B ≤ w.heap.size) (cur : Array Value) (cap : Nat) (hm : cap ≤ maxLen) (hs : cur.size = cap * n) : GrowL K n t B (w.alloc (.cells cur t)) (.slice (some ⟨H, 0, none⟩) 0 cap) [] := by
  subst hH
  exact ⟨[], World.ownsRow_made w cur cap hB hm hs, trivial⟩
theorem GrowL.on (h : GrowL K n t B w v xs) (hs : ∀ g, B ≤ g → g < w.heap.size → w'.heap[g]? = w.heap[g]?) : GrowL K n t B w' v xs := by
  obtain ⟨css, ⟨h1, h2⟩, h3⟩ := h
  refine ⟨css, ⟨h1, ?_⟩, h3⟩
  rcases h2 with h2 | ⟨g, cap, cur, hv, hb, hg, hr⟩
  · exact .inl h2
  · exact .inr ⟨g, cap, cur, hv, hb, (hs g hb (Array.getElem?_eq_some_iff.1 hg).1).trans hg, hr⟩
theorem GrowL.stays (h : GrowL K n t B w v xs) (hs : Stays w w') : GrowL K n t B w' v xs := h.on fun g _ hg => Below.block hs g hg
theorem GrowL.lower {B' : Nat} (h : GrowL K n t B w v xs) (hB : B' ≤ B) : GrowL K n t B' w v xs := by
  obtain ⟨css, ⟨h1, h2⟩, h3⟩ := h
  refine ⟨css, ⟨h1, ?_⟩, h3⟩
  rcases h2 with h2 | ⟨g, cap, cur, hv, hb, hg⟩
  · exact .inl h2
  · exact .inr ⟨g, cap, cur, hv, Nat.le_trans hB hb, hg⟩
theorem GrowL.form (h : GrowL K n t B w v xs) : ∃ ao cv, v = .slice ao xs.length cv := by
  obtain ⟨css, ⟨_, h2⟩, _⟩ := h
  rcases h2 with ⟨rfl, h0⟩ | ⟨g, cap, cur, rfl, _⟩
  · exact ⟨none, 0, by rw [h0]⟩
  · exact ⟨_, _, rfl⟩
theorem GrowL.more {css : List (List Value)} {c : List Value} {m : List NV} (h : w.ownsRow B t n v (xs.length + 1) (css.flatten ++ c)) (hm : RIn K css xs) (hc : KMs K c m) : GrowL K n t B w v (xs ++ [m]) :=
  ⟨css ++ [c], by rw [List.flatten_append, List.length_append]; simpa using h, hm.snoc hc⟩
theorem GrowL.lies (hK : K.length = n) (h : GrowL K n t B w v xs) : ∃ g, B ≤ g ∧ LiesL K n w g v xs := by
  obtain ⟨css, ⟨_, h2⟩, h3⟩ := h
  rcases h2 with ⟨rfl, h0⟩ | ⟨g, cap, cur, rfl, hb, hg, hn, hc, hs, ht⟩
  · have : xs = [] := List.eq_nil_of_length_eq_zero h0
    subst this
    exact ⟨B, Nat.le_refl _, none, 0, rfl, fun h => absurd rfl h⟩
  · refine ⟨g, hb, _, _, rfl, fun _ => ⟨rfl, (Array.getElem?_eq_some_iff.1 hg).1, fun j hj => ?_, fun i r hr => ?_⟩⟩
    · refine ⟨?_, frozen_of_row _ _ _ _ _ hg⟩
      rw [cell_of_row _ _ _ _ _ _ hg]
      have : 0 + j < cur.size := by rw [hs]; have := Nat.mul_le_mul_right n hn; omega
      rw [Array.getElem?_eq_getElem this]; rfl
    · obtain ⟨cs, hk, hat⟩ := h3.at_ hK hr
      refine ⟨cs, hk, fun j u hu => ?_⟩
      have h1 := hat j u hu
      have hi := (List.getElem?_eq_some_iff.1 hr).1
      have hj : j < cs.length := (List.getElem?_eq_some_iff.1 hu).1
      have hl : cs.length = n := (KMs_len hk).trans hK
      have hlt : i * n + j < xs.length * n := by
        have := Nat.mul_le_mul_right n (show i + 1 ≤ xs.length from hi)
        rw [Nat.add_mul] at this
        omega
      rw [cell_of_row _ _ _ _ _ _ hg]
      rw [← ht, List.getElem?_take_of_lt hlt] at h1
      simpa using h1
end

/-! Lines. -/
def lnN (dx dy : Int) : Int := max (max dx (-dx)) (max dy (-dy))
def lnC (a d n i : Int) : Int := a + (2 * i * d + n) / (2 * n)
def lnR (ax ay dx dy n : Int) (k : Nat) : List (List NV) := (List.range k).map fun (i : Nat) => [NV.i (lnC ax dx n (i : Int)), NV.i (lnC ay dy n (i : Int))]
def line (ax ay bx by' : Int) : List (List NV) := lnR ax ay (bx - ax) (by' - ay) (lnN (bx - ax) (by' - ay)) ((lnN (bx - ax) (by' - ay)).toNat + 1)

theorem lnR_len (ax ay dx dy n : Int) (k : Nat) : (lnR ax ay dx dy n k).length = k := by simp [lnR]
theorem lnR_succ (ax ay dx dy n : Int) (k : Nat) : lnR ax ay dx dy n (k + 1) = lnR ax ay dx dy n k ++ [[NV.i (lnC ax dx n k), NV.i (lnC ay dy n k)]] := by
  unfold lnR
  rw [List.range_succ, List.map_append]
  rfl
theorem lnR_at {ax ay dx dy n : Int} {k i : Nat} {r : List NV} (h : (lnR ax ay dx dy n k)[i]? = some r) : i < k ∧ r = [NV.i (lnC ax dx n i), NV.i (lnC ay dy n i)] := by
  have hi := (List.getElem?_eq_some_iff.1 h).1
  rw [lnR_len] at hi
  refine ⟨hi, ?_⟩
  unfold lnR at h
  rw [List.getElem?_map, List.getElem?_range hi] at h
  exact (Option.some.inj h).symm

theorem floor_tdiv {x m : Int} (hm : 0 < m) : (if Int.tmod x m < 0 then Int.tdiv x m - 1 else Int.tdiv x m) = x / m := by
  have h1 := Int.mul_tdiv_add_tmod x m
  have h2 := Int.tmod_lt_of_pos x hm
  have h3 := Int.lt_tmod_of_pos x hm
  symm
  split
  · rename_i h
    refine ((Int.ediv_emod_unique (r := Int.tmod x m + m) hm).2 ⟨?_, by omega, by omega⟩).1
    rw [Int.mul_sub]
    omega
  · refine ((Int.ediv_emod_unique (r := Int.tmod x m) hm).2 ⟨?_, by omega, by omega⟩).1
    omega

theorem abs_mul_le {i d : Int} {m k : Nat} (hi : -m ≤ i ∧ i ≤ m) (hd : -k ≤ d ∧ d ≤ k) : -((m * k : Nat) : Int) ≤ i * d ∧ i * d ≤ ((m * k : Nat) : Int) := by
  have h : (i * d).natAbs ≤ m * k := by
    rw [Int.natAbs_mul]
    exact Nat.mul_le_mul (by omega) (by omega)
  omega

theorem lnN_bd {ax ay bx by' : Int} (h1 : 0 ≤ ax ∧ ax ≤ 23) (h2 : 0 ≤ ay ∧ ay ≤ 23) (h3 : 0 ≤ bx ∧ bx ≤ 23) (h4 : 0 ≤ by' ∧ by' ≤ 23) : 0 ≤ lnN (bx - ax) (by' - ay) ∧ lnN (bx - ax) (by' - ay) ≤ 23 := by
  unfold lnN
  omega
theorem lnN_x {dx dy : Int} : -lnN dx dy ≤ dx ∧ dx ≤ lnN dx dy := by unfold lnN; omega
theorem lnN_y {dx dy : Int} : -lnN dx dy ≤ dy ∧ dy ≤ lnN dx dy := by unfold lnN; omega

theorem lnC_zero (a i : Int) (d : Int) : lnC a d 0 i = a := by simp [lnC]

/-- What the program divides is not negative, and gives the same. -/
theorem lnC_impl {a d n i : Int} (ha : 0 ≤ a) (hb : 0 ≤ a + d) (hn : 0 < n) (hi : 0 ≤ i ∧ i ≤ n) : 0 ≤ 2 * n * a + 2 * i * d + n ∧ Int.tdiv (2 * n * a + 2 * i * d + n) (2 * n) = lnC a d n i := by
  have h0 : 0 ≤ 2 * n * a + 2 * i * d + n := by
    rw [Int.mul_assoc, Int.mul_assoc]
    have h1 : 0 ≤ n * a := Int.mul_nonneg (by omega) ha
    by_cases hd : 0 ≤ d
    · have h2 : 0 ≤ i * d := Int.mul_nonneg hi.1 hd
      omega
    · have h2 : n * d ≤ i * d := Int.mul_le_mul_of_nonpos_right hi.2 (by omega)
      have h3 : 0 ≤ n * (a + d) := Int.mul_nonneg (by omega) hb
      rw [Int.mul_add] at h3
      omega
  refine ⟨h0, ?_⟩
  rw [Int.tdiv_eq_ediv_of_nonneg h0]
  unfold lnC
  rw [Int.add_assoc, Int.mul_add_ediv_left a _ (by omega)]

theorem lnC_bd {a d n i : Int} (ha : 0 ≤ a ∧ a ≤ 23) (hb : 0 ≤ a + d ∧ a + d ≤ 23) (hn : 0 < n) (hi : 0 ≤ i ∧ i ≤ n) : 0 ≤ lnC a d n i ∧ lnC a d n i ≤ 23 := by
  obtain ⟨h0, h1⟩ := lnC_impl ha.1 hb.1 hn hi
  rw [Int.tdiv_eq_ediv_of_nonneg h0] at h1
  refine ⟨by rw [← h1]; exact Int.ediv_nonneg h0 (by omega), ?_⟩
  rw [← h1]
  have := (Int.ediv_lt_iff_lt_mul (a := 2 * n * a + 2 * i * d + n) (b := 24) (c := 2 * n) (by omega)).2 (by
    rw [Int.mul_assoc, Int.mul_assoc]
    by_cases hd : 0 ≤ d
    · have h2 : i * d ≤ n * d := Int.mul_le_mul_of_nonneg_right hi.2 hd
      have h3 : n * (a + d) ≤ n * 23 := Int.mul_le_mul_of_nonneg_left hb.2 (by omega)
      rw [Int.mul_add] at h3
      omega
    · have h2 : i * d ≤ 0 := Int.mul_nonpos_of_nonneg_of_nonpos hi.1 (by omega)
      have h3 : n * a ≤ n * 23 := Int.mul_le_mul_of_nonneg_left ha.2 (by omega)
      omega)
  omega
end Go.Proofs.Yteidjmliepmlmaa
