/- Lists of rows that grow; the spots of straight lines, by number. The spots of a straight line, as the document and the program find them. The spots of a straight line, as the program finds them. Lists of spots that a call owns: marked, held. The spots between two spots, as the document and the program tell them. No condition. -/
import Derived.Test.YteidjmliepmlmaaGhC
import Derived.Deep.AppendLies
import Derived.Test.YteidjmliepmlmaaGeC
import Derived.Laws.MakeOwn
import Derived.Test.YteidjmliepmlmaaKSpot
import Derived.Test.YteidjmliepmlmaaGdF
import Derived.Test.YteidjmliepmlmaaLa
namespace Go.Proofs.Yteidjmliepmlmaa
open Go Go.RowKit
set_option linter.unusedVariables false
set_option linter.unusedSimpArgs false

def RIn (K : List Kd) : List (List Value) → List (List NV) → Prop
  | [], [] => True
  | c :: cs, m :: ms => KMs K c m ∧ RIn K cs ms
  | _, _ => False

theorem RIn.snoc {K : List Kd} : ∀ {css : List (List Value)} {xs : List (List NV)} {c : List Value} {m : List NV}, RIn K css xs → KMs K c m → RIn K (css ++ [c]) (xs ++ [m])
  | [], [], _, _, _, h => ⟨h, trivial⟩
  | c :: cs, m :: ms, _, _, ⟨h1, h2⟩, h => ⟨h1, h2.snoc h⟩
  | [], _ :: _, _, _, h, _ => h.elim
  | _ :: _, [], _, _, h, _ => h.elim

theorem RIn.at_ {K : List Kd} {n : Nat} (hn : K.length = n) : ∀ {css : List (List Value)} {xs : List (List NV)}, RIn K css xs → ∀ {i : Nat} {m : List NV}, xs[i]? = some m → ∃ cs, KMs K cs m ∧ ∀ j u, cs[j]? = some u → css.flatten[i * n + j]? = some u
  | [], [], _, i, m, h => by simp at h
  | c :: cs, x :: xs, ⟨h1, h2⟩, 0, m, h => by
    cases h
    refine ⟨c, h1, fun j u hu => ?_⟩
    have hj := (List.getElem?_eq_some_iff.1 hu).1
    rw [List.flatten_cons, Nat.zero_mul, Nat.zero_add, List.getElem?_append_left hj]
    exact hu
  | c :: cs, x :: xs, ⟨h1, h2⟩, i + 1, m, h => by
    obtain ⟨cs', hk, hat⟩ := RIn.at_ hn h2 (i := i) (m := m) (by simpa using h)
    refine ⟨cs', hk, fun j u hu => ?_⟩
    have hl : c.length = n := (KMs_len h1).trans hn
    rw [List.flatten_cons, List.getElem?_append_right (by rw [hl, Nat.add_mul]; omega)]
    rw [show (i + 1) * n + j - c.length = i * n + j from by rw [hl, Nat.add_mul]; omega]
    exact hat j u hu

/-- A list of rows that grows in a block from B on. -/
structure GrowL (K : List Kd) (n : Nat) (t : TypeId) (B : Nat) (w : World) (v : Value) (xs : List (List NV)) : Prop where
  own : ∃ css : List (List Value), w.ownsRow B t n v xs.length css.flatten ∧ RIn K css xs

section
variable {K : List Kd} {n : Nat} {t : TypeId} {B : Nat} {w w' : World} {v : Value} {xs : List (List NV)}
theorem GrowL.nil (K : List Kd) (n : Nat) (t : TypeId) (B : Nat) (w : World) : GrowL K n t B w (.slice none 0 0) [] := ⟨[], World.ownsRow_nil _ _ _ _, trivial⟩
theorem GrowL.made (K : List Kd) (n : Nat) (t : TypeId) {B : Nat} (w : World) {H : Nat} (hH : w.heap.size = H) (hB : B ≤ w.heap.size) (cur : Array Value) (cap : Nat) (hm : cap ≤ maxLen) (hs : cur.size = cap * n) : GrowL K n t B (w.alloc (.cells cur t)) (.slice (some ⟨H, 0, none⟩) 0 cap) [] := by
  subst hH
  exact ⟨[], World.ownsRow_made w cur cap hB hm hs, trivial⟩
theorem GrowL.on (h : GrowL K n t B w v xs) (hs : ∀ g, B ≤ g → g < w.heap.size → w'.heap[g]? = w.heap[g]?) : GrowL K n t B w' v xs := by
  obtain ⟨css, ⟨h1, h2⟩, h3⟩ := h
  refine ⟨css, ⟨h1, ?_⟩, h3⟩
  rcases h2 with h2 | ⟨g, cap, cur, hv, hb, hg, hr⟩
  · exact .inl h2
  · exact .inr ⟨g, cap, cur, hv, hb, (hs g hb (Array.getElem?_eq_some_iff.1 hg).1).trans hg, hr⟩
theorem GrowL.stays (h : GrowL K n t B w v xs) (hs : Stays w w') : GrowL K n t B w' v xs := h.on fun g _ hg => Below.block hs g hg
theorem GrowL.lower {B' : Nat} (h : GrowL K n t B w v xs) (hB : B' ≤ B) : GrowL K n t B' w v xs := by
  obtain ⟨css, ⟨h1, h2⟩, h3⟩ := h
  refine ⟨css, ⟨h1, ?_⟩, h3⟩
  rcases h2 with h2 | ⟨g, cap, cur, hv, hb, hg⟩
  · exact .inl h2
  · exact .inr ⟨g, cap, cur, hv, Nat.le_trans hB hb, hg⟩
theorem GrowL.form (h : GrowL K n t B w v xs) : ∃ ao cv, v = .slice ao xs.length cv := by
  obtain ⟨css, ⟨_, h2⟩, _⟩ := h
  rcases h2 with ⟨rfl, h0⟩ | ⟨g, cap, cur, rfl, _⟩
  · exact ⟨none, 0, by rw [h0]⟩
  · exact ⟨_, _, rfl⟩
theorem GrowL.more {css : List (List Value)} {c : List Value} {m : List NV} (h : w.ownsRow B t n v (xs.length + 1) (css.flatten ++ c)) (hm : RIn K css xs) (hc : KMs K c m) : GrowL K n t B w v (xs ++ [m]) :=
  ⟨css ++ [c], by rw [List.flatten_append, List.length_append]; simpa using h, hm.snoc hc⟩
theorem GrowL.lies (hK : K.length = n) (h : GrowL K n t B w v xs) : ∃ g, B ≤ g ∧ LiesL K n w g v xs := by
  obtain ⟨css, ⟨_, h2⟩, h3⟩ := h
  rcases h2 with ⟨rfl, h0⟩ | ⟨g, cap, cur, rfl, hb, hg, hn, hc, hs, ht⟩
  · have : xs = [] := List.eq_nil_of_length_eq_zero h0
    subst this
    exact ⟨B, Nat.le_refl _, none, 0, rfl, fun h => absurd rfl h⟩
  · refine ⟨g, hb, _, _, rfl, fun _ => ⟨rfl, (Array.getElem?_eq_some_iff.1 hg).1, fun j hj => ?_, fun i r hr => ?_⟩⟩
    · refine ⟨?_, frozen_of_row _ _ _ _ _ hg⟩
      rw [cell_of_row _ _ _ _ _ _ hg]
      have : 0 + j < cur.size := by rw [hs]; have := Nat.mul_le_mul_right n hn; omega
      rw [Array.getElem?_eq_getElem this]; rfl
    · obtain ⟨cs, hk, hat⟩ := h3.at_ hK hr
      refine ⟨cs, hk, fun j u hu => ?_⟩
      have h1 := hat j u hu
      have hi := (List.getElem?_eq_some_iff.1 hr).1
      have hj : j < cs.length := (List.getElem?_eq_some_iff.1 hu).1
      have hl : cs.length = n := (KMs_len hk).trans hK
      have hlt : i * n + j < xs.length * n := by
        have := Nat.mul_le_mul_right n (show i + 1 ≤ xs.length from hi)
        rw [Nat.add_mul] at this
        omega
      rw [cell_of_row _ _ _ _ _ _ hg]
      rw [← ht, List.getElem?_take_of_lt hlt] at h1
      simpa using h1
end

/-! Lines. -/
def lnN (dx dy : Int) : Int := max (max dx (-dx)) (max dy (-dy))
def lnC (a d n i : Int) : Int := a + (2 * i * d + n) / (2 * n)
def lnR (ax ay dx dy n : Int) (k : Nat) : List (List NV) := (List.range k).map fun (i : Nat) => [NV.i (lnC ax dx n (i : Int)), NV.i (lnC ay dy n (i : Int))]
def line (ax ay bx by' : Int) : List (List NV) := lnR ax ay (bx - ax) (by' - ay) (lnN (bx - ax) (by' - ay)) ((lnN (bx - ax) (by' - ay)).toNat + 1)

theorem lnR_len (ax ay dx dy n : Int) (k : Nat) : (lnR ax ay dx dy n k).length = k := by simp [lnR]
theorem lnR_succ (ax ay dx dy n : Int) (k : Nat) : lnR ax ay dx dy n (k + 1) = lnR ax ay dx dy n k ++ [[NV.i (lnC ax dx n k), NV.i (lnC ay dy n k)]] := by
  unfold lnR
  rw [List.range_succ, List.map_append]
  rfl
theorem lnR_at {ax ay dx dy n : Int} {k i : Nat} {r : List NV} (h : (lnR ax ay dx dy n k)[i]? = some r) : i < k ∧ r = [NV.i (lnC ax dx n i), NV.i (lnC ay dy n i)] := by
  have hi := (List.getElem?_eq_some_iff.1 h).1
  rw [lnR_len] at hi
  refine ⟨hi, ?_⟩
  unfold lnR at h
  rw [List.getElem?_map, List.getElem?_range hi] at h
  exact (Option.some.inj h).symm

theorem floor_tdiv {x m : Int} (hm : 0 < m) : (if Int.tmod x m < 0 then Int.tdiv x m - 1 else Int.tdiv x m) = x / m := by
  have h1 := Int.mul_tdiv_add_tmod x m
  have h2 := Int.tmod_lt_of_pos x hm
  have h3 := Int.lt_tmod_of_pos x hm
  symm
  split
  · rename_i h
    refine ((Int.ediv_emod_unique (r := Int.tmod x m + m) hm).2 ⟨?_, by omega, by omega⟩).1
    rw [Int.mul_sub]
    omega
  · refine ((Int.ediv_emod_unique (r := Int.tmod x m) hm).2 ⟨?_, by omega, by omega⟩).1
    omega

theorem abs_mul_le {i d : Int} {m k : Nat} (hi : -m ≤ i ∧ i ≤ m) (hd : -k ≤ d ∧ d ≤ k) : -((m * k : Nat) : Int) ≤ i * d ∧ i * d ≤ ((m * k : Nat) : Int) := by
  have h : (i * d).natAbs ≤ m * k := by
    rw [Int.natAbs_mul]
    exact Nat.mul_le_mul (by omega) (by omega)
  omega

theorem lnN_bd {ax ay bx by' : Int} (h1 : 0 ≤ ax ∧ ax ≤ 23) (h2 : 0 ≤ ay ∧ ay ≤ 23) (h3 : 0 ≤ bx ∧ bx ≤ 23) (h4 : 0 ≤ by' ∧ by' ≤ 23) : 0 ≤ lnN (bx - ax) (by' - ay) ∧ lnN (bx - ax) (by' - ay) ≤ 23 := by
  unfold lnN
  omega
theorem lnN_x {dx dy : Int} : -lnN dx dy ≤ dx ∧ dx ≤ lnN dx dy := by unfold lnN; omega
theorem lnN_y {dx dy : Int} : -lnN dx dy ≤ dy ∧ dy ≤ lnN dx dy := by unfold lnN; omega

theorem lnC_zero (a i : Int) (d : Int) : lnC a d 0 i = a := by simp [lnC]

/-- What the program divides is not negative, and gives the same. -/
theorem lnC_impl {a d n i : Int} (ha : 0 ≤ a) (hb : 0 ≤ a + d) (hn : 0 < n) (hi : 0 ≤ i ∧ i ≤ n) : 0 ≤ 2 * n * a + 2 * i * d + n ∧ Int.tdiv (2 * n * a + 2 * i * d + n) (2 * n) = lnC a d n i := by
  have h0 : 0 ≤ 2 * n * a + 2 * i * d + n := by
    rw [Int.mul_assoc, Int.mul_assoc]
    have h1 : 0 ≤ n * a := Int.mul_nonneg (by omega) ha
    by_cases hd : 0 ≤ d
    · have h2 : 0 ≤ i * d := Int.mul_nonneg hi.1 hd
      omega
    · have h2 : n * d ≤ i * d := Int.mul_le_mul_of_nonpos_right hi.2 (by omega)
      have h3 : 0 ≤ n * (a + d) := Int.mul_nonneg (by omega) hb
      rw [Int.mul_add] at h3
      omega
  refine ⟨h0, ?_⟩
  rw [Int.tdiv_eq_ediv_of_nonneg h0]
  unfold lnC
  rw [Int.add_assoc, Int.mul_add_ediv_left a _ (by omega)]

theorem lnC_bd {a d n i : Int} (ha : 0 ≤ a ∧ a ≤ 23) (hb : 0 ≤ a + d ∧ a + d ≤ 23) (hn : 0 < n) (hi : 0 ≤ i ∧ i ≤ n) : 0 ≤ lnC a d n i ∧ lnC a d n i ≤ 23 := by
  obtain ⟨h0, h1⟩ := lnC_impl ha.1 hb.1 hn hi
  rw [Int.tdiv_eq_ediv_of_nonneg h0] at h1
  refine ⟨by rw [← h1]; exact Int.ediv_nonneg h0 (by omega), ?_⟩
  rw [← h1]
  have := (Int.ediv_lt_iff_lt_mul (a := 2 * n * a + 2 * i * d + n) (b := 24) (c := 2 * n) (by omega)).2 (by
    rw [Int.mul_assoc, Int.mul_assoc]
    by_cases hd : 0 ≤ d
    · have h2 : i * d ≤ n * d := Int.mul_le_mul_of_nonneg_right hi.2 hd
      have h3 : n * (a + d) ≤ n * 23 := Int.mul_le_mul_of_nonneg_left hb.2 (by omega)
      rw [Int.mul_add] at h3
      omega
    · have h2 : i * d ≤ 0 := Int.mul_nonpos_of_nonneg_of_nonpos hi.1 (by omega)
      have h3 : n * a ≤ n * 23 := Int.mul_le_mul_of_nonneg_left ha.2 (by omega)
      omega)
  omega
end Go.Proofs.Yteidjmliepmlmaa

namespace Go.Proofs.Yteidjmliepmlmaa
open Go Go.RowKit
set_option linter.unusedVariables false
set_option linter.unusedSimpArgs false

theorem c_l00Max (x y : Int) (w : World) : Calls Try.prog 60 #[.int .i64 x, .int .i64 y] w fun e w' => e = .returned (.int .i64 (max x y)) ∧ w = w' := by
  by_cases h : y < x
  · rw [show max x y = x from by omega]
    go_enter Try.func60, Try.ntmps60
    go_wp2
    go_ret
    exact ⟨rfl, rfl⟩
  · rw [show max x y = y from by omega]
    go_enter Try.func60, Try.ntmps60
    go_wp2
    go_ret
    exact ⟨rfl, rfl⟩

theorem tdiv_in {x m : Int} (hx : -1000000 ≤ x ∧ x ≤ 1000000) : IntKind.i64.wrap (Int.tdiv x m) = Int.tdiv x m ∧ (-1000000 ≤ Int.tdiv x m ∧ Int.tdiv x m ≤ 1000000) := by
  have h : (Int.tdiv x m).natAbs ≤ x.natAbs := by
    rw [Int.natAbs_tdiv]
    exact Nat.div_le_self _ _
  exact ⟨IntWalk.i64_in _ (by omega), by omega⟩

theorem tmod_in {x m : Int} (hm : 0 < m ∧ m ≤ 1000000) : IntKind.i64.wrap (Int.tmod x m) = Int.tmod x m := by
  have h2 := Int.tmod_lt_of_pos x hm.1
  have h3 := Int.lt_tmod_of_pos x hm.1
  exact IntWalk.i64_in _ (by omega)

theorem c_l07Floor (x m : Int) (hx : -1000000 ≤ x ∧ x ≤ 1000000) (hm : 0 < m ∧ m ≤ 1000000) (w : World) : Calls Try.prog 93 #[.int .i64 x, .int .i64 m] w fun e w' => e = .returned (.int .i64 (x / m)) ∧ Stays w w' := by
  have e1 : ¬ m = 0 := by omega
  obtain ⟨e2, bd⟩ := tdiv_in (m := m) hx
  have e3 := tmod_in (x := x) hm
  have e4 : IntKind.i64.wrap (Int.tdiv x m - 1) = Int.tdiv x m - 1 := IntWalk.i64_in _ (by omega)
  rw [← floor_tdiv hm.1]
  by_cases h : Int.tmod x m < 0
  · rw [if_pos h]
    clear hx hm bd
    go_enter Try.func93, Try.ntmps93
    go_wp2
    go_ret
    exact ⟨rfl, Stays.refl _⟩
  · rw [if_neg h]
    clear hx hm bd
    go_enter Try.func93, Try.ntmps93
    go_wp2
    go_ret
    exact ⟨rfl, Stays.refl _⟩

/-- What a round of a line computes. -/
theorem ln_facts {a d n t : Int} (ha : 0 ≤ a ∧ a ≤ 23) (hb : 0 ≤ a + d ∧ a + d ≤ 23) (hn : 0 < n ∧ n ≤ 23) (ht : 0 ≤ t ∧ t ≤ n) :
    ((-1000000 ≤ 2 * t * d + n ∧ 2 * t * d + n ≤ 1000000) ∧ (0 < 2 * n ∧ 2 * n ≤ 1000000)) ∧
    (IntKind.i64.wrap (2 * t) = 2 * t ∧ IntKind.i64.wrap (2 * t * d) = 2 * t * d ∧ IntKind.i64.wrap (2 * t * d + n) = 2 * t * d + n ∧ IntKind.i64.wrap (2 * n) = 2 * n) ∧
    (IntKind.i64.wrap (a + (2 * t * d + n) / (2 * n)) = lnC a d n t ∧ IntKind.i16.wrap (lnC a d n t) = lnC a d n t) ∧
    (IntKind.i64.wrap (2 * n * a) = 2 * n * a ∧ IntKind.i64.wrap (2 * n * a + 2 * t * d) = 2 * n * a + 2 * t * d ∧ IntKind.i64.wrap (2 * n * a + 2 * t * d + n) = 2 * n * a + 2 * t * d + n ∧ ¬ 2 * n = 0 ∧ Int.tdiv (2 * n * a + 2 * t * d + n) (2 * n) = lnC a d n t ∧ IntKind.i64.wrap (lnC a d n t) = lnC a d n t) := by
  have h1 := abs_mul_le (i := t) (d := d) (m := 23) (k := 23) (by omega) (by omega)
  have h2 := abs_mul_le (i := n) (d := a) (m := 23) (k := 23) (by omega) (by omega)
  have h3 := lnC_bd ha hb hn.1 ht
  have h4 := (lnC_impl ha.1 hb.1 hn.1 ht).2
  have e1 : 2 * t * d = 2 * (t * d) := Int.mul_assoc _ _ _
  have e2 : 2 * n * a = 2 * (n * a) := Int.mul_assoc _ _ _
  refine ⟨⟨by omega, by omega⟩, ⟨IntWalk.i64_in _ (by omega), IntWalk.i64_in _ (by omega), IntWalk.i64_in _ (by omega), IntWalk.i64_in _ (by omega)⟩, ⟨?_, IntWalk.i16_in _ (by omega)⟩, ⟨IntWalk.i64_in _ (by omega), IntWalk.i64_in _ (by omega), IntWalk.i64_in _ (by omega), by omega, h4, IntWalk.i64_in _ (by omega)⟩⟩
  exact IntWalk.i64_in (lnC a d n t) (by omega)

/-- A line, or nothing, with a code. -/
def SDone (w : World) (code : Int) (xs : List (List NV)) (e : Ending) (w' : World) : Prop := ∃ v, e = .returned (.tuple #[v, .int .i64 code]) ∧ GrowL KSpot 2 32 w.heap.size w' v xs ∧ Stays w w'
def LDoneS (w : World) (xs : List (List NV)) (e : Ending) (w' : World) : Prop := ∃ v, e = .returned v ∧ GrowL KSpot 2 32 w.heap.size w' v xs ∧ Stays w w'

theorem GrowL.one {K : List Kd} {n : Nat} {t : TypeId} {B : Nat} {w : World} {cs : List Value} {m : List NV} {H : Nat} (hH : w.heap.size = H) (hB : B ≤ w.heap.size) (hn : K.length = n) (hk : KMs K cs m) : GrowL K n t B (w.alloc (.cells ⟨cs⟩ t)) (.slice (some ⟨H, 0, none⟩) 1 1) [m] := by
  subst hH
  have hl : cs.length = n := (KMs_len hk).trans hn
  refine ⟨[cs], ⟨by simp [hl], .inr ⟨w.heap.size, 1, ⟨cs⟩, rfl, hB, heap_alloc_new w _, Nat.le_refl _, by unfold maxLen; omega, by simp [hl], ?_⟩⟩, ⟨hk, trivial⟩⟩
  show List.take (1 * n) cs = [cs].flatten
  rw [Nat.one_mul, ← hl]
  simp

theorem line_zero {ax ay bx by' : Int} (h : lnN (bx - ax) (by' - ay) = 0) : line ax ay bx by' = [[NV.i ax, NV.i ay]] := by
  unfold line
  rw [h]
  simp [lnR, lnC_zero]

set_option maxRecDepth 100000 in
set_option maxHeartbeats 2000000 in
theorem c_l07Line (ax ay bx by' : Int) (w : World) (h1 : 0 ≤ ax ∧ ax ≤ 23) (h2 : 0 ≤ ay ∧ ay ≤ 23) (h3 : 0 ≤ bx ∧ bx ≤ 23) (h4 : 0 ≤ by' ∧ by' ≤ 23) :
    Calls Try.prog 67 #[.agg #[.int .i16 ax, .int .i16 ay], .agg #[.int .i16 bx, .int .i16 by']] w (LDoneS w (line ax ay bx by')) := by
  obtain ⟨i0, hi0, hz0, hz1, hz2⟩ := info_parts infoSpot
  have bd := lnN_bd h1 h2 h3 h4
  have hz : lnN (bx - ax) (by' - ay) = 0 → line ax ay bx by' = [[NV.i ax, NV.i ay]] := line_zero
  have hl : line ax ay bx by' = lnR ax ay (bx - ax) (by' - ay) (lnN (bx - ax) (by' - ay)) ((lnN (bx - ax) (by' - ay)).toNat + 1) := rfl
  obtain ⟨dx, hdx⟩ : ∃ dx, bx - ax = dx := ⟨_, rfl⟩
  obtain ⟨dy, hdy⟩ : ∃ dy, by' - ay = dy := ⟨_, rfl⟩
  rw [hdx, hdy] at bd hz hl
  have ea : IntKind.i64.wrap ax = ax := IntWalk.i64_in _ (by omega)
  have eb : IntKind.i64.wrap ay = ay := IntWalk.i64_in _ (by omega)
  have ec : IntKind.i64.wrap bx = bx := IntWalk.i64_in _ (by omega)
  have ed : IntKind.i64.wrap by' = by' := IntWalk.i64_in _ (by omega)
  have ee : IntKind.i64.wrap (bx - ax) = dx := (IntWalk.i64_in _ (by omega)).trans hdx
  have ef : IntKind.i64.wrap (by' - ay) = dy := (IntWalk.i64_in _ (by omega)).trans hdy
  have eg : IntKind.i64.wrap (-dx) = -dx := IntWalk.i64_in _ (by omega)
  have eh : IntKind.i64.wrap (-dy) = -dy := IntWalk.i64_in _ (by omega)
  have hbx : 0 ≤ ax + dx ∧ ax + dx ≤ 23 := by omega
  have hby : 0 ≤ ay + dy ∧ ay + dy ≤ 23 := by omega
  have k1 := Lib.hid fun W => c_l00Max dx (-dx) W
  have k2 := Lib.hid fun W => c_l00Max dy (-dy) W
  have k3 := fun W => c_l00Max (max dx (-dx)) (max dy (-dy)) W
  rw [show max (max dx (-dx)) (max dy (-dy)) = lnN dx dy from rfl] at k3
  generalize lnN dx dy = n at bd hz hl k3
  generalize line ax ay bx by' = XS at hz hl ⊢
  replace k3 := Lib.hid k3
  replace hz := Lib.hid hz
  replace hl := Lib.hid hl
  replace h1 := Lib.hid h1
  replace h2 := Lib.hid h2
  replace hbx := Lib.hid hbx
  replace hby := Lib.hid hby
  clear h3 h4 hdx hdy
  have hst0 : Stays w ((w.alloc (.cells #[.int .i16 ax, .int .i16 ay] 32)).alloc (.cells #[.int .i16 bx, .int .i16 by'] 32)) := by (repeat (first | exact Stays.refl _ | (with_reducible refine Stays.drewN ?_ _) | (with_reducible refine Stays.alloc ?_ _) | (with_reducible refine Stays.drew ?_) | (refine Stays.trans ?_ ‹Stays _ _›)))
  have u0 : ((w.alloc (.cells #[.int .i16 ax, .int .i16 ay] 32)).alloc (.cells #[.int .i16 bx, .int .i16 by'] 32)).heap[w.heap.size]? = some (.cells #[.int .i16 ax, .int .i16 ay] 32 (0, 0)) := by (repeat (first | (refine heap_top _ _ _ ?_; simp; done) | (with_reducible refine heap_drawn _ _ _ ?_) | (with_reducible refine heap_under _ _ _ ?_ ?_; (simp <;> omega))))
  have HC := Lib.hid fun W (h : Stays ((w.alloc (.cells #[.int .i16 ax, .int .i16 ay] 32)).alloc (.cells #[.int .i16 bx, .int .i16 by'] 32)) W) => And.intro (row_of h u0 0) (row_of h u0 1)
  have hsz0 := Lib.hid hst0.size
  replace hst0 := Lib.hid hst0
  have hE : Hid (((w.alloc (.cells #[.int .i16 ax, .int .i16 ay] 32)).alloc (.cells #[.int .i16 bx, .int .i16 by'] 32)).heap.size = w.heap.size + 1 + 1) := Lib.hid (by simp)
  clear u0
  by_cases hn0 : n = 0
  · have e0 := hz.out hn0
    subst e0
    clear bd hl hz
    go_enter Try.func67, Try.ntmps67
    go_wp2_with fail
    refine (k1.out _).mono ?_
    rintro e w1 ⟨rfl, rfl⟩
    go_wp2_with fail
    refine (k2.out _).mono ?_
    rintro e w1 ⟨rfl, rfl⟩
    go_wp2_with fail
    refine (k3.out _).mono ?_
    rintro e w1 ⟨rfl, rfl⟩
    go_wp2
    go_ret
    exact ⟨_, rfl, GrowL.one (K := KSpot) (cs := [.int .i16 ax, .int .i16 ay]) (n := 2) (m := [NV.i ax, NV.i ay]) (by simp) hsz0.out rfl ⟨rfl, rfl, trivial⟩, hst0.out.trans (by (repeat (first | exact Stays.refl _ | (with_reducible refine Stays.drewN ?_ _) | (with_reducible refine Stays.alloc ?_ _) | (with_reducible refine Stays.drew ?_) | (refine Stays.trans ?_ ‹Stays _ _›))))⟩
  · have hn : 0 < n ∧ n ≤ 23 := by omega
    replace hn := Lib.hid hn
    have e0 := hl.out
    subst e0
    obtain ⟨nn, hnn⟩ : ∃ nn : Nat, n = nn := ⟨n.toNat, by omega⟩
    have hnt : n.toNat = nn := by omega
    rw [hnt]
    replace hnn := Lib.hid hnn
    clear bd hl hz hnt
    go_enter Try.func67, Try.ntmps67
    go_wp2_with fail
    refine (k1.out _).mono ?_
    rintro e w1 ⟨rfl, rfl⟩
    go_wp2_with fail
    refine (k2.out _).mono ?_
    rintro e w1 ⟨rfl, rfl⟩
    go_wp2_with fail
    refine (k3.out _).mono ?_
    rintro e w1 ⟨rfl, rfl⟩
    clear k1 k2 k3 ec ed ee ef eg eh
    go_wp2_with fail
    go_loopw [8, 9] (fun v i wr => ∃ (k : Nat) (t : Int) (ao : Option Addr) (cv : Nat), k ≤ nn + 1 ∧ i = .int .i64 t ∧ v = .slice ao k cv ∧ Hid (t = k) ∧ Hid (GrowL KSpot 2 32 (w.heap.size + 1 + 1) wr v (lnR ax ay dx dy n k)) ∧ Hid (Stays ((w.alloc (.cells #[.int .i16 ax, .int .i16 ay] 32)).alloc (.cells #[.int .i16 bx, .int .i16 by'] 32)) wr)) (fun _ i _ => nn + 1 - (intOf i).toNat)
    case atStart => exact ⟨0, 0, _, _, Nat.zero_le _, rfl, rfl, Lib.hid rfl, Lib.hid (GrowL.made KSpot 2 32 _ (by simp) (by simp) #[] 0 (Nat.zero_le _) rfl), Lib.hid (by (repeat (first | exact Stays.refl _ | (with_reducible refine Stays.drewN ?_ _) | (with_reducible refine Stays.alloc ?_ _) | (with_reducible refine Stays.drew ?_) | (refine Stays.trans ?_ ‹Stays _ _›))))⟩
    case round =>
      obtain ⟨k, t, ao, cv, hk, rfl, rfl, ht, hg, hb⟩ := hrel
      by_cases hlt : t ≤ n
      · have htn : 0 ≤ t ∧ t ≤ n := by have := ht.out; omega
        obtain ⟨⟨fx, fm⟩, ⟨p1, p2, p3, p4⟩, ⟨p5, p6⟩, _⟩ := ln_facts h1.out hbx.out hn.out htn
        obtain ⟨⟨fy, _⟩, ⟨_, q2, q3, _⟩, ⟨q5, q6⟩, _⟩ := ln_facts h2.out hby.out hn.out htn
        have kx := fun W => c_l07Floor (2 * t * dx + n) (2 * n) fx fm W
        have ky := fun W => c_l07Floor (2 * t * dy + n) (2 * n) fy fm W
        have hnx := Lib.hid (show lnR ax ay dx dy n (k + 1) = lnR ax ay dx dy n k ++ [[NV.i (lnC ax dx n t), NV.i (lnC ay dy n t)]] from by rw [ht.out]; exact lnR_succ _ _ _ _ _ _)
        generalize lnC ax dx n t = cx at *
        generalize lnC ay dy n t = cy at *
        generalize (2 * t * dx + n) / (2 * n) = qx at *
        generalize (2 * t * dy + n) / (2 * n) = qy at *
        obtain ⟨px, hpx⟩ : ∃ px, 2 * t * dx + n = px := ⟨_, rfl⟩
        obtain ⟨py, hpy⟩ : ∃ py, 2 * t * dy + n = py := ⟨_, rfl⟩
        replace p3 := p3.trans hpx
        replace q3 := q3.trans hpy
        rw [hpx] at kx
        rw [hpy] at ky
        replace kx := Lib.hid kx
        replace ky := Lib.hid ky
        clear fx fm fy htn hpx hpy
        have hcells : ∀ W, Stays wr W → W.cell? ⟨w.heap.size, 0, none⟩ = some (.int .i16 ax) ∧ W.cell? ⟨w.heap.size, 1, none⟩ = some (.int .i16 ay) := fun W h => HC.out W (hb.out.trans h)
        go_wp2_with fail
        refine wp_region_soft_tail 13 (Stays.refl _) (oneS 93 #[.int .i64 px, .int .i64 (2 * n)] (fun v => v = .int .i64 qx)) [] (by kernel_rfl) (by kernel_rfl) (fun _ h => by cases h) ?_
        simp only [List.take_succ_cons, List.take_zero, List.drop_succ_cons, List.drop_zero]
        repeat ((with_reducible apply soft_detG); (case hwa => rfl); (case hA => rfl); (case h => (intro w1 hw1; have hc := hcells w1 hw1; go_simp; exact rfl)); go_simp)
        refine soft_callO (by rfl) rfl ?h (fun w2 h2 => (kx.out w2).mono fun e w' ⟨h1, h2⟩ => ⟨_, h1, rfl, h2⟩) ?_
        case h => (intro w2 hw2; have hc := hcells w2 hw2; go_simp; try exact ⟨rfl, rfl⟩)
        rintro v rfl
        go_simp
        repeat ((with_reducible apply soft_detG); (case hwa => rfl); (case hA => rfl); (case h => (intro w1 hw1; have hc := hcells w1 hw1; go_simp; exact rfl)); go_simp)
        refine soft_nil ?_
        rintro w2 ⟨hw2, _⟩
        have hb2 := Lib.hid (hb.out.trans hw2)
        have hg2 := Lib.hid (hg.out.stays hw2)
        clear hcells hw2 hb hg p2 p3 p5
        have hcells : ∀ W, Stays w2 W → W.cell? ⟨w.heap.size, 0, none⟩ = some (.int .i16 ax) ∧ W.cell? ⟨w.heap.size, 1, none⟩ = some (.int .i16 ay) := fun W h => HC.out W (hb2.out.trans h)
        go_wp2_with fail
        refine wp_region_soft_tail 13 (Stays.refl _) (oneS 93 #[.int .i64 py, .int .i64 (2 * n)] (fun v => v = .int .i64 qy)) [] (by kernel_rfl) (by kernel_rfl) (fun _ h => by cases h) ?_
        simp only [List.take_succ_cons, List.take_zero, List.drop_succ_cons, List.drop_zero]
        repeat ((with_reducible apply soft_detG); (case hwa => rfl); (case hA => rfl); (case h => (intro w1 hw1; have hc := hcells w1 hw1; go_simp; exact rfl)); go_simp)
        refine soft_callO (by rfl) rfl ?h (fun w2 h2 => (ky.out w2).mono fun e w' ⟨h1, h2⟩ => ⟨_, h1, rfl, h2⟩) ?_
        case h => (intro w2 hw2; have hc := hcells w2 hw2; go_simp; try exact ⟨rfl, rfl⟩)
        rintro v rfl
        go_simp
        repeat ((with_reducible apply soft_detG); (case hwa => rfl); (case hA => rfl); (case h => (intro w1 hw1; have hc := hcells w1 hw1; go_simp; exact rfl)); go_simp)
        refine soft_nil ?_
        rintro w3 ⟨hw3, _⟩
        have hb3 := Lib.hid (hb2.out.trans hw3)
        have hg3 := hg2.out.stays hw3
        obtain ⟨css, hown, hin⟩ := hg3.own
        rw [lnR_len] at hown
        replace hown := Lib.hid hown
        replace hin := Lib.hid hin
        have hsz3 : w.heap.size + 1 + 1 ≤ w3.heap.size := by have := hb3.out.size; simpa using this
        have hb4 := Lib.hid (by have h := hb3.out; first | (unfold Stays at h; rw [hE.out] at h; exact h) | (rw [hE.out] at h; exact h))
        clear hcells hw3 hg2 hg3 hb2 q2 q3 q5 hb3 kx ky
        have et : IntKind.i64.wrap (t + 1) = t + 1 := IntWalk.i64_in _ (by have := hn.out; have := ht.out; omega)
        have hkk : k < 24 := by have := ht.out; have := hn.out; omega
        go_wp2_with (at_builtin; go_loud (refine wpList_append_own _ rfl _ _ 42 rfl (w.heap.size + 1 + 1) 32 i0 (.agg #[.int .i16 0, .int .i16 0]) 2 4 Try.underlying42 hi0 hz0 hz1 hz2 rfl (by decide) _ _ _ rfl (hown.out.alloc _) ⟨w3.heap.size, 0, none⟩ 1 1 [.int .i16 cx, .int .i16 cy] rfl rfl (World.news_of_block (heap_alloc_new w3 _)) (by simp [Value.oneCell']) (by unfold maxLen; omega) (by omega) (by simp; omega) ?_); intro v' w4 hown1 hgrow _)
        have hg4 := Lib.hid (GrowL.more (xs := lnR ax ay dx dy n k) (c := [.int .i16 cx, .int .i16 cy]) (m := [NV.i cx, NV.i cy]) (by rw [lnR_len]; exact hown1) hin.out ⟨rfl, rfl, trivial⟩)
        have hb5 := Lib.hid ((hb4.out.alloc hsz3 _).grown hgrow (Nat.le_trans hsz3 (by simp)) (fun q hq => (hown.out.lt q hq).1))
        clear hown1 hgrow
        obtain ⟨ao', cv', hv⟩ := hg4.out.form
        simp only [List.length_append, lnR_len, List.length_cons, List.length_nil, Nat.zero_add] at hv
        subst hv
        go_round
        case rel =>
          refine ⟨k + 1, by have := ht.out; have := hnn.out; omega, ⟨ao', cv', rfl⟩, Lib.hid (by have := ht.out; omega), by rw [hnx.out]; exact hg4, Lib.hid (by first | (unfold Stays; rw [hE.out]; exact hb5.out) | (rw [hE.out]; exact hb5.out))⟩
        case measure => simp [intOf]; have := ht.out; have := hnn.out; omega
      · have e : k = nn + 1 := by have := ht.out; have := hnn.out; omega
        subst e
        have hf := Lib.hid (hst0.out.trans hb.out)
        go_wp2
        go_ret
        exact ⟨_, rfl, hg.out.lower (by omega), hf.out⟩
end Go.Proofs.Yteidjmliepmlmaa

namespace Go.Proofs.Yteidjmliepmlmaa
open Go Go.RowKit
set_option linter.unusedVariables false
set_option linter.unusedSimpArgs false

theorem run_max4 (ts : Array TypeId) (t : TypeId) (dx dy : Int) (w : World) : (Builtin.max_ ts t #[.int .i64 dx, .int .i64 (-dx), .int .i64 dy, .int .i64 (-dy)]).run Try.prog w = .ok (.int .i64 (lnN dx dy)) w := by
  have e : (if -dy > (if dy > (if -dx > dx then -dx else dx) then dy else (if -dx > dx then -dx else dx)) then -dy else (if dy > (if -dx > dx then -dx else dx) then dy else (if -dx > dx then -dx else dx))) = lnN dx dy := by unfold lnN; omega
  rw [← e]
  simp [Builtin.max_, Builtin.max2]

set_option maxRecDepth 100000 in
set_option maxHeartbeats 2000000 in
theorem c_lineOf (ax ay bx by' : Int) (w : World) (h1 : 0 ≤ ax ∧ ax ≤ 23) (h2 : 0 ≤ ay ∧ ay ≤ 23) (h3 : 0 ≤ bx ∧ bx ≤ 23) (h4 : 0 ≤ by' ∧ by' ≤ 23) :
    Calls Try.prog 69 #[.agg #[.int .i16 ax, .int .i16 ay], .agg #[.int .i16 bx, .int .i16 by']] w (LDoneS w (line ax ay bx by')) := by
  obtain ⟨i0, hi0, hz0, hz1, hz2⟩ := info_parts infoSpot
  have bd := lnN_bd h1 h2 h3 h4
  have hz : lnN (bx - ax) (by' - ay) = 0 → line ax ay bx by' = [[NV.i ax, NV.i ay]] := line_zero
  have hl : line ax ay bx by' = lnR ax ay (bx - ax) (by' - ay) (lnN (bx - ax) (by' - ay)) ((lnN (bx - ax) (by' - ay)).toNat + 1) := rfl
  obtain ⟨dx, hdx⟩ : ∃ dx, bx - ax = dx := ⟨_, rfl⟩
  obtain ⟨dy, hdy⟩ : ∃ dy, by' - ay = dy := ⟨_, rfl⟩
  rw [hdx, hdy] at bd hz hl
  have ea : IntKind.i64.wrap ax = ax := IntWalk.i64_in _ (by omega)
  have eb : IntKind.i64.wrap ay = ay := IntWalk.i64_in _ (by omega)
  have ec : IntKind.i64.wrap bx = bx := IntWalk.i64_in _ (by omega)
  have ed : IntKind.i64.wrap by' = by' := IntWalk.i64_in _ (by omega)
  have ee : IntKind.i64.wrap (bx - ax) = dx := (IntWalk.i64_in _ (by omega)).trans hdx
  have ef : IntKind.i64.wrap (by' - ay) = dy := (IntWalk.i64_in _ (by omega)).trans hdy
  have eg : IntKind.i64.wrap (-dx) = -dx := IntWalk.i64_in _ (by omega)
  have eh : IntKind.i64.wrap (-dy) = -dy := IntWalk.i64_in _ (by omega)
  have hbx : 0 ≤ ax + dx ∧ ax + dx ≤ 23 := by omega
  have hby : 0 ≤ ay + dy ∧ ay + dy ≤ 23 := by omega
  have k3 := fun ts t W => run_max4 ts t dx dy W
  generalize lnN dx dy = n at bd hz hl k3
  generalize line ax ay bx by' = XS at hz hl ⊢
  replace k3 := Lib.hid k3
  replace hz := Lib.hid hz
  replace hl := Lib.hid hl
  replace h1 := Lib.hid h1
  replace h2 := Lib.hid h2
  replace hbx := Lib.hid hbx
  replace hby := Lib.hid hby
  clear h3 h4 hdx hdy
  have hst0 : Stays w ((w.alloc (.cells #[.int .i16 ax, .int .i16 ay] 32)).alloc (.cells #[.int .i16 bx, .int .i16 by'] 32)) := by (repeat (first | exact Stays.refl _ | (with_reducible refine Stays.drewN ?_ _) | (with_reducible refine Stays.alloc ?_ _) | (with_reducible refine Stays.drew ?_) | (refine Stays.trans ?_ ‹Stays _ _›)))
  have u0 : ((w.alloc (.cells #[.int .i16 ax, .int .i16 ay] 32)).alloc (.cells #[.int .i16 bx, .int .i16 by'] 32)).heap[w.heap.size]? = some (.cells #[.int .i16 ax, .int .i16 ay] 32 (0, 0)) := by (repeat (first | (refine heap_top _ _ _ ?_; simp; done) | (with_reducible refine heap_drawn _ _ _ ?_) | (with_reducible refine heap_under _ _ _ ?_ ?_; (simp <;> omega))))
  have HC := Lib.hid fun W (h : Stays ((w.alloc (.cells #[.int .i16 ax, .int .i16 ay] 32)).alloc (.cells #[.int .i16 bx, .int .i16 by'] 32)) W) => And.intro (row_of h u0 0) (row_of h u0 1)
  have hsz0 := Lib.hid hst0.size
  replace hst0 := Lib.hid hst0
  have hE : Hid (((w.alloc (.cells #[.int .i16 ax, .int .i16 ay] 32)).alloc (.cells #[.int .i16 bx, .int .i16 by'] 32)).heap.size = w.heap.size + 1 + 1) := Lib.hid (by simp)
  clear u0
  by_cases hn0 : n = 0
  · have e0 := hz.out hn0
    subst e0
    clear bd hl hz
    go_enter Try.func69, Try.ntmps69
    go_wp2
    go_region
    go_wp2
    go_region
    have k3' := k3.out
    go_wp2
    go_ret
    exact ⟨_, rfl, GrowL.stays (GrowL.one (w := ((w.alloc (.cells #[.int .i16 ax, .int .i16 ay] 32)).alloc (.cells #[.int .i16 bx, .int .i16 by'] 32))) (t := 32) (H := w.heap.size + 1 + 1) (K := KSpot) (cs := [.int .i16 ax, .int .i16 ay]) (n := 2) (m := [NV.i ax, NV.i ay]) (by simp) hsz0.out rfl ⟨rfl, rfl, trivial⟩) (by (repeat (first | exact Stays.refl _ | (with_reducible refine Stays.drewN ?_ _) | (with_reducible refine Stays.alloc ?_ _) | (with_reducible refine Stays.drew ?_) | (refine Stays.trans ?_ ‹Stays _ _›)))), hst0.out.trans (by (repeat (first | exact Stays.refl _ | (with_reducible refine Stays.drewN ?_ _) | (with_reducible refine Stays.alloc ?_ _) | (with_reducible refine Stays.drew ?_) | (refine Stays.trans ?_ ‹Stays _ _›))))⟩
  · have en0 : (n == 0) = false := by simpa using hn0
    have hn : 0 < n ∧ n ≤ 23 := by omega
    replace hn := Lib.hid hn
    have e0 := hl.out
    subst e0
    obtain ⟨nn, hnn⟩ : ∃ nn : Nat, n = nn := ⟨n.toNat, by omega⟩
    have hnt : n.toNat = nn := by omega
    rw [hnt]
    replace hnn := Lib.hid hnn
    clear bd hl hz hnt
    go_enter Try.func69, Try.ntmps69
    go_wp2
    go_region
    go_wp2
    go_region
    have k3' := k3.out
    have hmk : ∀ u : World, (Instr.makeSlice 42 (.int .i64 0) (.int .i64 (n + 1))).run Try.prog u = .ok (.slice (some ⟨u.heap.size, 0, none⟩) 0 (nn + 1)) (u.alloc (.cells (madeCells (Value.agg #[.int .i16 0, .int .i16 0]).cells ((nn + 1) * 2)) 32)) := fun u => by
      have := run_make (P := Try.prog) u 42 32 i0 _ Try.underlying42 hi0 hz0 .i64 .i64 0 (n + 1) (by omega) (by have := hn.out; omega) (by rw [hz2]; have := hn.out; omega) (by have := hn.out; omega)
      rw [show (n + 1).toNat = nn + 1 from by have := hnn.out; omega] at this
      simpa [hz1] using this
    have en : IntKind.i64.wrap (n + 1) = n + 1 := IntWalk.i64_in _ (by have := hn.out; omega)
    go_wp2_with fail
    clear k3 k3' hmk
    go_loopw [10, 46] (fun v i wr => ∃ (k : Nat) (t : Int) (ao : Option Addr) (cv : Nat), k ≤ nn + 1 ∧ i = .int .i64 t ∧ v = .slice ao k cv ∧ Hid (t = k) ∧ Hid (GrowL KSpot 2 32 (w.heap.size + 1 + 1) wr v (lnR ax ay dx dy n k)) ∧ Hid (Stays ((w.alloc (.cells #[.int .i16 ax, .int .i16 ay] 32)).alloc (.cells #[.int .i16 bx, .int .i16 by'] 32)) wr)) (fun _ i _ => nn + 1 - (intOf i).toNat)
    case atStart => exact ⟨0, 0, _, _, Nat.zero_le _, rfl, rfl, Lib.hid rfl, Lib.hid (GrowL.stays (GrowL.made KSpot 2 32 (H := w.heap.size + 1 + 1) ((w.alloc (.cells #[.int .i16 ax, .int .i16 ay] 32)).alloc (.cells #[.int .i16 bx, .int .i16 by'] 32)) (by simp) (by simp) (madeCells (Value.agg #[.int .i16 0, .int .i16 0]).cells ((nn + 1) * 2)) (nn + 1) (by have := hn.out; have := hnn.out; unfold maxLen; omega) (by simp [madeCells])) (by (repeat (first | exact Stays.refl _ | (with_reducible refine Stays.drewN ?_ _) | (with_reducible refine Stays.alloc ?_ _) | (with_reducible refine Stays.drew ?_) | (refine Stays.trans ?_ ‹Stays _ _›))))), Lib.hid (by (repeat (first | exact Stays.refl _ | (with_reducible refine Stays.drewN ?_ _) | (with_reducible refine Stays.alloc ?_ _) | (with_reducible refine Stays.drew ?_) | (refine Stays.trans ?_ ‹Stays _ _›))))⟩
    case round =>
      obtain ⟨k, t, ao, cv, hk, rfl, rfl, ht, hg, hb⟩ := hrel
      by_cases hlt : t < n + 1
      · have htn : 0 ≤ t ∧ t ≤ n := by have := ht.out; omega
        obtain ⟨_, ⟨p1, p2, _, p4⟩, ⟨_, p6⟩, ⟨r1, r2, r3, r4, r5, r6⟩⟩ := ln_facts h1.out hbx.out hn.out htn
        obtain ⟨_, ⟨_, q2, _, _⟩, ⟨_, q6⟩, ⟨s1, s2, s3, _, s5, s6⟩⟩ := ln_facts h2.out hby.out hn.out htn
        have hnx := Lib.hid (show lnR ax ay dx dy n (k + 1) = lnR ax ay dx dy n k ++ [[NV.i (lnC ax dx n t), NV.i (lnC ay dy n t)]] from by rw [ht.out]; exact lnR_succ _ _ _ _ _ _)
        generalize lnC ax dx n t = cx at *
        generalize lnC ay dy n t = cy at *
        have hlt' : t < n + 1 := by omega
        obtain ⟨css, hown, hin⟩ := hg.out.own
        rw [lnR_len] at hown
        replace hown := Lib.hid hown
        replace hin := Lib.hid hin
        have hsz3 : w.heap.size + 1 + 1 ≤ wr.heap.size := by have := hb.out.size; rw [hE.out] at this; exact this
        have hb4 := Lib.hid (by have h := hb.out; first | (unfold Stays at h; rw [hE.out] at h; exact h) | (rw [hE.out] at h; exact h))
        clear hg hb htn
        have et : IntKind.i64.wrap (t + 1) = t + 1 := IntWalk.i64_in _ (by have := hn.out; have := ht.out; omega)
        have hkk : k < 24 := by have := ht.out; have := hn.out; omega
        go_wp2_with (at_builtin; go_loud (refine wpList_append_own _ rfl _ _ 42 rfl (w.heap.size + 1 + 1) 32 i0 (.agg #[.int .i16 0, .int .i16 0]) 2 4 Try.underlying42 hi0 hz0 hz1 hz2 rfl (by decide) _ _ _ rfl (hown.out.alloc _) ⟨wr.heap.size, 0, none⟩ 1 1 [.int .i16 cx, .int .i16 cy] rfl rfl (World.news_of_block (heap_alloc_new wr _)) (by simp [Value.oneCell']) (by unfold maxLen; omega) (by omega) (by simp; omega) ?_); intro v' w4 hown1 hgrow _)
        have hg4 := Lib.hid (GrowL.more (xs := lnR ax ay dx dy n k) (c := [.int .i16 cx, .int .i16 cy]) (m := [NV.i cx, NV.i cy]) (by rw [lnR_len]; exact hown1) hin.out ⟨rfl, rfl, trivial⟩)
        have hb5 := Lib.hid ((hb4.out.alloc hsz3 _).grown hgrow (Nat.le_trans hsz3 (by simp)) (fun q hq => (hown.out.lt q hq).1))
        clear hown1 hgrow
        obtain ⟨ao', cv', hv⟩ := hg4.out.form
        simp only [List.length_append, lnR_len, List.length_cons, List.length_nil, Nat.zero_add] at hv
        subst hv
        go_round
        case rel =>
          refine ⟨k + 1, t + 1, ao', cv', by have := ht.out; have := hnn.out; omega, by go_num, by go_num, Lib.hid (by have := ht.out; omega), by rw [hnx.out]; exact hg4, Lib.hid (by first | (unfold Stays; rw [hE.out]; exact hb5.out) | (rw [hE.out]; exact hb5.out))⟩
        case measure => simp [intOf]; have := ht.out; have := hnn.out; omega
      · have e : k = nn + 1 := by have := ht.out; have := hnn.out; omega
        subst e
        have hf := Lib.hid (hst0.out.trans hb.out)
        go_wp2
        go_ret
        exact ⟨_, rfl, hg.out.lower (by omega), hf.out⟩
end Go.Proofs.Yteidjmliepmlmaa

namespace Go.Proofs.Yteidjmliepmlmaa
open Go Go.RowKit
set_option linter.unusedVariables false

abbrev LiesS (w : World) (g : Nat) (v : Value) (xs : List (List NV)) : Prop := LiesL KSpot 2 w g v xs

section
variable {K : List Kd} {m : Nat} {w w' : World} {g c : Nat} {A : Option Addr} {v : Value} {xs : List (List NV)}
theorem ne_of_posL (h : 0 < xs.length) : xs ≠ [] := fun e => by rw [e] at h; simp at h
theorem LiesL_at (h : LiesL K m w g (.slice A xs.length c) xs) : 0 < xs.length → A = some ⟨g, 0, none⟩ := fun h0 => by
  obtain ⟨A', c', e, h⟩ := h
  cases e
  exact (h (ne_of_posL h0)).1
theorem LiesL_lt (h : LiesL K m w g v xs) : 0 < xs.length → g < w.heap.size := fun h0 => LiesR.lt h (ne_of_posL h0)
theorem LiesL_there (h : LiesL K m w g v xs) : w.there g 0 (xs.length * m) := by
  by_cases hx : xs = []
  · subst hx
    intro j hj
    simp at hj
  · obtain ⟨A, c, e, h⟩ := h
    exact (h hx).2.2.1
theorem LiesL_same (h : LiesL K m w g v xs) (hs : xs ≠ [] → Same w w' g) : LiesL K m w' g v xs := by
  by_cases hx : xs = []
  · subst hx
    obtain ⟨A, c, e, _⟩ := h
    exact ⟨A, c, e, fun h => absurd rfl h⟩
  · exact LiesR.on h fun _ => hs hx
end

theorem rows_belowS {w w' : World} {g n : Nat} {k0 : Int} (h : ∀ j, j < n → w.rangeAt g (j * 2) (mrowSpot (k0 + 2 * (j : Nat)))) (hb : Stays w w') : ∀ j, j < n → w'.rangeAt g (j * 2) (mrowSpot (k0 + 2 * (j : Nat))) := fun j hj => by
  have hlt : g < w.heap.size := World.block_lt_of_cell? _ _ (h j hj 0 _ rfl)
  exact range_below (h j hj) hb hlt
end Go.Proofs.Yteidjmliepmlmaa

namespace Go.Proofs.Yteidjmliepmlmaa
open Go Go.RowKit
set_option linter.unusedVariables false
set_option linter.unusedSimpArgs false

def in23 (x : Int) : Bool := decide (0 ≤ x ∧ x ≤ 23)
def sbB (ax ay bx by' : Int) : Bool := (in23 ax && in23 bx) && (in23 ay && in23 by')
def sbC (ax ay bx by' : Int) : Int := if sbB ax ay bx by' then 0 else 2
def sbX (ax ay bx by' : Int) : List (List NV) := if sbB ax ay bx by' then line ax ay bx by' else []

theorem sb_bad {ax ay bx by' : Int} (h : sbB ax ay bx by' = false) : sbC ax ay bx by' = 2 ∧ sbX ax ay bx by' = [] := by
  unfold sbC sbX
  rw [h]
  exact ⟨rfl, rfl⟩
theorem sb_good {ax ay bx by' : Int} (h : sbB ax ay bx by' = true) : sbC ax ay bx by' = 0 ∧ sbX ax ay bx by' = line ax ay bx by' := by
  unfold sbC sbX
  rw [h]
  exact ⟨rfl, rfl⟩
theorem in23_iff {x : Int} : in23 x = true ↔ 0 ≤ x ∧ x ≤ 23 := decide_eq_true_iff

set_option maxRecDepth 100000 in
set_option maxHeartbeats 2000000 in
theorem c_specSB (ax ay bx by' : Int) (w : World) (hax : In16 ax) (hay : In16 ay) (hbx : In16 bx) (hby : In16 by') :
    Calls Try.prog 26 #[.agg #[.int .i16 ax, .int .i16 ay], .agg #[.int .i16 bx, .int .i16 by']] w (SDone w (sbC ax ay bx by') (sbX ax ay bx by')) := by
  have e1 := in16 hax
  have e2 := in16 hay
  have e3 := in16 hbx
  have e4 := in16 hby
  have kax := fun W => c_l00In ax 0 23 W
  have kay := fun W => c_l00In ay 0 23 W
  have kbx := fun W => c_l00In bx 0 23 W
  have kby := fun W => c_l00In by' 0 23 W
  have hst : Stays w ((w.alloc (.cells #[.int .i16 ax, .int .i16 ay] 32)).alloc (.cells #[.int .i16 bx, .int .i16 by'] 32)) := by (repeat (first | exact Stays.refl _ | (with_reducible refine Stays.drewN ?_ _) | (with_reducible refine Stays.alloc ?_ _) | (with_reducible refine Stays.drew ?_) | (refine Stays.trans ?_ ‹Stays _ _›)))
  have hE : Hid (((w.alloc (.cells #[.int .i16 ax, .int .i16 ay] 32)).alloc (.cells #[.int .i16 bx, .int .i16 by'] 32)).heap.size = w.heap.size + 1 + 1) := Lib.hid (by simp)
  have hbad := Lib.hid (show sbB ax ay bx by' = false → _ from sb_bad)
  have hgood := Lib.hid (show sbB ax ay bx by' = true → _ from sb_good)
  have hS : sbB ax ay bx by' = ((in23 ax && in23 bx) && (in23 ay && in23 by')) := rfl
  have kL := fun (h1 : in23 ax = true) (h2 : in23 ay = true) (h3 : in23 bx = true) (h4 : in23 by' = true) W => c_l07Line ax ay bx by' W (in23_iff.1 h1) (in23_iff.1 h2) (in23_iff.1 h3) (in23_iff.1 h4)
  rw [show decide (0 ≤ ax ∧ ax ≤ 23) = in23 ax from rfl] at kax
  rw [show decide (0 ≤ ay ∧ ay ≤ 23) = in23 ay from rfl] at kay
  rw [show decide (0 ≤ bx ∧ bx ≤ 23) = in23 bx from rfl] at kbx
  rw [show decide (0 ≤ by' ∧ by' ≤ 23) = in23 by' from rfl] at kby
  generalize sbC ax ay bx by' = code at *
  generalize sbX ax ay bx by' = XS at *
  generalize sbB ax ay bx by' = B at *
  generalize in23 ax = p0 at *
  generalize in23 bx = p1 at *
  generalize in23 ay = p2 at *
  generalize in23 by' = p3 at *
  replace hst := Lib.hid hst
  clear hax hay hbx hby
  cases p0 with
  | false =>
      obtain ⟨rfl, rfl⟩ := hbad.out (by rw [hS]; simp)
      clear hgood hbad hS kL
      replace kax := Lib.hid kax
      clear kbx kay kby
      go_enter Try.func26, Try.ntmps26
      go_wp2
      refine wp_loop_rounds 3 ?_
      rw [rounds_succ]
      go_wp2_with fail
      refine (kax.out _).mono ?_
      rintro e w1 ⟨rfl, rfl⟩
      go_wp2
      go_ret2
      exact ⟨_, rfl, GrowL.made KSpot 2 32 (H := w.heap.size + 1 + 1) ((w.alloc (.cells #[.int .i16 ax, .int .i16 ay] 32)).alloc (.cells #[.int .i16 bx, .int .i16 by'] 32)) (by simp) (by simp; omega) #[] 0 (Nat.zero_le _) rfl, hst.out.trans (by (repeat (first | exact Stays.refl _ | (with_reducible refine Stays.drewN ?_ _) | (with_reducible refine Stays.alloc ?_ _) | (with_reducible refine Stays.drew ?_) | (refine Stays.trans ?_ ‹Stays _ _›))))⟩
  | true =>
  cases p1 with
  | false =>
      obtain ⟨rfl, rfl⟩ := hbad.out (by rw [hS]; simp)
      clear hgood hbad hS kL
      replace kax := Lib.hid kax
      replace kbx := Lib.hid kbx
      clear kay kby
      go_enter Try.func26, Try.ntmps26
      go_wp2
      refine wp_loop_rounds 3 ?_
      rw [rounds_succ]
      go_wp2_with fail
      refine (kax.out _).mono ?_
      rintro e w1 ⟨rfl, rfl⟩
      go_wp2_with fail
      refine (kbx.out _).mono ?_
      rintro e w1 ⟨rfl, rfl⟩
      go_wp2
      go_ret2
      exact ⟨_, rfl, GrowL.made KSpot 2 32 (H := w.heap.size + 1 + 1) ((w.alloc (.cells #[.int .i16 ax, .int .i16 ay] 32)).alloc (.cells #[.int .i16 bx, .int .i16 by'] 32)) (by simp) (by simp; omega) #[] 0 (Nat.zero_le _) rfl, hst.out.trans (by (repeat (first | exact Stays.refl _ | (with_reducible refine Stays.drewN ?_ _) | (with_reducible refine Stays.alloc ?_ _) | (with_reducible refine Stays.drew ?_) | (refine Stays.trans ?_ ‹Stays _ _›))))⟩
  | true =>
  cases p2 with
  | false =>
      obtain ⟨rfl, rfl⟩ := hbad.out (by rw [hS]; simp)
      clear hgood hbad hS kL
      replace kax := Lib.hid kax
      replace kbx := Lib.hid kbx
      replace kay := Lib.hid kay
      clear kby
      go_enter Try.func26, Try.ntmps26
      go_wp2
      refine wp_loop_rounds 3 ?_
      rw [rounds_succ]
      go_wp2_with fail
      refine (kax.out _).mono ?_
      rintro e w1 ⟨rfl, rfl⟩
      go_wp2_with fail
      refine (kbx.out _).mono ?_
      rintro e w1 ⟨rfl, rfl⟩
      go_wp2_with fail
      rw [rounds_succ]
      go_wp2_with fail
      refine (kay.out _).mono ?_
      rintro e w1 ⟨rfl, rfl⟩
      go_wp2
      go_ret2
      exact ⟨_, rfl, GrowL.made KSpot 2 32 (H := w.heap.size + 1 + 1) ((w.alloc (.cells #[.int .i16 ax, .int .i16 ay] 32)).alloc (.cells #[.int .i16 bx, .int .i16 by'] 32)) (by simp) (by simp; omega) #[] 0 (Nat.zero_le _) rfl, hst.out.trans (by (repeat (first | exact Stays.refl _ | (with_reducible refine Stays.drewN ?_ _) | (with_reducible refine Stays.alloc ?_ _) | (with_reducible refine Stays.drew ?_) | (refine Stays.trans ?_ ‹Stays _ _›))))⟩
  | true =>
  cases p3 with
  | false =>
      obtain ⟨rfl, rfl⟩ := hbad.out (by rw [hS]; simp)
      clear hgood hbad hS kL
      replace kax := Lib.hid kax
      replace kbx := Lib.hid kbx
      replace kay := Lib.hid kay
      replace kby := Lib.hid kby
      go_enter Try.func26, Try.ntmps26
      go_wp2
      refine wp_loop_rounds 3 ?_
      rw [rounds_succ]
      go_wp2_with fail
      refine (kax.out _).mono ?_
      rintro e w1 ⟨rfl, rfl⟩
      go_wp2_with fail
      refine (kbx.out _).mono ?_
      rintro e w1 ⟨rfl, rfl⟩
      go_wp2_with fail
      rw [rounds_succ]
      go_wp2_with fail
      refine (kay.out _).mono ?_
      rintro e w1 ⟨rfl, rfl⟩
      go_wp2_with fail
      refine (kby.out _).mono ?_
      rintro e w1 ⟨rfl, rfl⟩
      go_wp2
      go_ret2
      exact ⟨_, rfl, GrowL.made KSpot 2 32 (H := w.heap.size + 1 + 1) ((w.alloc (.cells #[.int .i16 ax, .int .i16 ay] 32)).alloc (.cells #[.int .i16 bx, .int .i16 by'] 32)) (by simp) (by simp; omega) #[] 0 (Nat.zero_le _) rfl, hst.out.trans (by (repeat (first | exact Stays.refl _ | (with_reducible refine Stays.drewN ?_ _) | (with_reducible refine Stays.alloc ?_ _) | (with_reducible refine Stays.drew ?_) | (refine Stays.trans ?_ ‹Stays _ _›))))⟩
  | true =>
      obtain ⟨rfl, rfl⟩ := hgood.out (by rw [hS]; rfl)
      clear hgood hbad hS
      replace kL := Lib.hid (kL rfl rfl rfl rfl)
      replace kax := Lib.hid kax
      replace kbx := Lib.hid kbx
      replace kay := Lib.hid kay
      replace kby := Lib.hid kby
      go_enter Try.func26, Try.ntmps26
      go_wp2
      refine wp_loop_rounds 3 ?_
      rw [rounds_succ]
      go_wp2_with fail
      refine (kax.out _).mono ?_
      rintro e w1 ⟨rfl, rfl⟩
      go_wp2_with fail
      refine (kbx.out _).mono ?_
      rintro e w1 ⟨rfl, rfl⟩
      go_wp2_with fail
      rw [rounds_succ]
      go_wp2_with fail
      refine (kay.out _).mono ?_
      rintro e w1 ⟨rfl, rfl⟩
      go_wp2_with fail
      refine (kby.out _).mono ?_
      rintro e w1 ⟨rfl, rfl⟩
      go_wp2
      rw [rounds_succ]
      go_wp2_with fail
      refine (kL.out _).mono ?_
      rintro e w2 ⟨v, rfl, hg, hs⟩
      have hf := Lib.hid (hst.out.trans hs)
      have hg2 := Lib.hid (hg.lower hst.out.size)
      clear hg hs
      go_wp2
      go_ret2
      exact ⟨_, rfl, hg2.out, hf.out⟩

set_option maxRecDepth 100000 in
set_option maxHeartbeats 2000000 in
theorem c_implSB (ax ay bx by' : Int) (w : World) (hax : In16 ax) (hay : In16 ay) (hbx : In16 bx) (hby : In16 by') :
    Calls Try.prog 27 #[.agg #[.int .i16 ax, .int .i16 ay], .agg #[.int .i16 bx, .int .i16 by']] w (SDone w (sbC ax ay bx by') (sbX ax ay bx by')) := by
  have ka := fun W => c_has 24 24 ax ay none 0 0 W hax hay
  have kb := fun W => c_has 24 24 bx by' none 0 0 W hbx hby
  have hst : Stays w (((w.alloc (.cells #[.int .i16 ax, .int .i16 ay] 32)).alloc (.cells #[.int .i16 bx, .int .i16 by'] 32)).alloc (.cells #[.int .i64 0, .int .i64 0, .slice none 0 0] 28)) := by (repeat (first | exact Stays.refl _ | (with_reducible refine Stays.drewN ?_ _) | (with_reducible refine Stays.alloc ?_ _) | (with_reducible refine Stays.drew ?_) | (refine Stays.trans ?_ ‹Stays _ _›)))
  have hres : (((w.alloc (.cells #[.int .i16 ax, .int .i16 ay] 32)).alloc (.cells #[.int .i16 bx, .int .i16 by'] 32)).alloc (.cells #[.int .i64 0, .int .i64 0, .slice none 0 0] 28)).heap[w.heap.size + 1 + 1]? = some (.cells #[.int .i64 0, .int .i64 0, .slice none 0 0] 28 (0, 0)) := by (repeat (first | (refine heap_top _ _ _ ?_; simp; done) | (with_reducible refine heap_drawn _ _ _ ?_) | (with_reducible refine heap_under _ _ _ ?_ ?_; (simp <;> omega))))
  have hst2 : Stays ((w.alloc (.cells #[.int .i16 ax, .int .i16 ay] 32)).alloc (.cells #[.int .i16 bx, .int .i16 by'] 32)) (((w.alloc (.cells #[.int .i16 ax, .int .i16 ay] 32)).alloc (.cells #[.int .i16 bx, .int .i16 by'] 32)).alloc (.cells #[.int .i64 0, .int .i64 0, .slice none 0 0] 28)) := by (repeat (first | exact Stays.refl _ | (with_reducible refine Stays.drewN ?_ _) | (with_reducible refine Stays.alloc ?_ _) | (with_reducible refine Stays.drew ?_) | (refine Stays.trans ?_ ‹Stays _ _›)))
  have u0 : ((w.alloc (.cells #[.int .i16 ax, .int .i16 ay] 32)).alloc (.cells #[.int .i16 bx, .int .i16 by'] 32)).heap[w.heap.size]? = some (.cells #[.int .i16 ax, .int .i16 ay] 32 (0, 0)) := by (repeat (first | (refine heap_top _ _ _ ?_; simp; done) | (with_reducible refine heap_drawn _ _ _ ?_) | (with_reducible refine heap_under _ _ _ ?_ ?_; (simp <;> omega))))
  have u1 : ((w.alloc (.cells #[.int .i16 ax, .int .i16 ay] 32)).alloc (.cells #[.int .i16 bx, .int .i16 by'] 32)).heap[w.heap.size + 1]? = some (.cells #[.int .i16 bx, .int .i16 by'] 32 (0, 0)) := by (repeat (first | (refine heap_top _ _ _ ?_; simp; done) | (with_reducible refine heap_drawn _ _ _ ?_) | (with_reducible refine heap_under _ _ _ ?_ ?_; (simp <;> omega))))
  have HC := Lib.hid fun W (h : Stays ((w.alloc (.cells #[.int .i16 ax, .int .i16 ay] 32)).alloc (.cells #[.int .i16 bx, .int .i16 by'] 32)) W) => show (W.cell? ⟨w.heap.size, 0, none⟩ = some (.int .i16 ax) ∧ W.cell? ⟨w.heap.size, 1, none⟩ = some (.int .i16 ay)) ∧ (W.cell? ⟨w.heap.size + 1, 0, none⟩ = some (.int .i16 bx) ∧ W.cell? ⟨w.heap.size + 1, 1, none⟩ = some (.int .i16 by')) from And.intro (And.intro (row_of h u0 0) (row_of h u0 1)) (And.intro (row_of h u1 0) (row_of h u1 1))
  have hE : Hid (((w.alloc (.cells #[.int .i16 ax, .int .i16 ay] 32)).alloc (.cells #[.int .i16 bx, .int .i16 by'] 32)).heap.size = w.heap.size + 1 + 1) := Lib.hid (by simp)
  have hst0 : Hid (Stays w ((w.alloc (.cells #[.int .i16 ax, .int .i16 ay] 32)).alloc (.cells #[.int .i16 bx, .int .i16 by'] 32))) := Lib.hid (by (repeat (first | exact Stays.refl _ | (with_reducible refine Stays.drewN ?_ _) | (with_reducible refine Stays.alloc ?_ _) | (with_reducible refine Stays.drew ?_) | (refine Stays.trans ?_ ‹Stays _ _›))))
  have hbad := Lib.hid (show sbB ax ay bx by' = false → _ from sb_bad)
  have hgood := Lib.hid (show sbB ax ay bx by' = true → _ from sb_good)
  have ha : hasB 24 24 ax ay = (in23 ax && in23 ay) := rfl
  have hb : hasB 24 24 bx by' = (in23 bx && in23 by') := rfl
  have hS : sbB ax ay bx by' = (hasB 24 24 ax ay && hasB 24 24 bx by') := by
    rw [ha, hb]
    unfold sbB
    cases in23 ax <;> cases in23 bx <;> cases in23 ay <;> rfl
  have kL := fun (h1 : hasB 24 24 ax ay = true) (h2 : hasB 24 24 bx by' = true) W => c_lineOf ax ay bx by' W (by have := hasB_iff.1 h1; omega) (by have := hasB_iff.1 h1; omega) (by have := hasB_iff.1 h2; omega) (by have := hasB_iff.1 h2; omega)
  clear ha hb u0 u1 hax hay hbx hby
  generalize sbC ax ay bx by' = code at *
  generalize sbX ax ay bx by' = XS at *
  generalize sbB ax ay bx by' = B at *
  generalize hasB 24 24 ax ay = p at *
  generalize hasB 24 24 bx by' = q at *
  cases p with
  | false =>
      obtain ⟨rfl, rfl⟩ := hbad.out (by rw [hS]; simp)
      clear hgood hbad hS kL
      replace ka := Lib.hid ka
      replace kb := Lib.hid kb
      go_enter Try.func27, Try.ntmps27
      go_wp2_with (refine wpList_store_row rfl _ _ _ rfl _ _ _ rfl rfl hres ?hi ?ho ?h1 ?hB hst2 ?_; (case hi => kernel_rfl); (case ho => rfl); (case h1 => first | rfl | simp [Value.oneCell']); (case hB => first | omega | (simp <;> omega)); intro w2 hw2 hq2 _ _; replace hw2 := Lib.hid (show Stays _ w2 from hw2); obtain ⟨⟨x0, x1⟩, y0, y1⟩ := HC.out _ hw2.out; have z0 : w2.cell? ⟨w.heap.size + 1 + 1, 0, none⟩ = some (.int .i64 24) := cell_of_row _ _ 0 _ _ _ hq2; have z1 : w2.cell? ⟨w.heap.size + 1 + 1, 1, none⟩ = some (.int .i64 24) := cell_of_row _ _ 1 _ _ _ hq2; have z2 : w2.cell? ⟨w.heap.size + 1 + 1, 2, none⟩ = some (.slice none 0 0) := cell_of_row _ _ 2 _ _ _ hq2; clear hq2 hres hst2 hst)
      go_wp2_with fail
      refine (ka.out _).mono ?_
      rintro e w3 ⟨rfl, hw3⟩
      replace hw3 := Lib.hid (hw2.out.trans hw3)
      go_wp2
      go_ret2
      exact ⟨_, rfl, GrowL.nil _ _ _ _ _, hst0.out.trans hw3.out⟩
  | true =>
  cases q with
  | false =>
      obtain ⟨rfl, rfl⟩ := hbad.out (by rw [hS]; simp)
      clear hgood hbad hS kL
      replace ka := Lib.hid ka
      replace kb := Lib.hid kb
      go_enter Try.func27, Try.ntmps27
      go_wp2_with (refine wpList_store_row rfl _ _ _ rfl _ _ _ rfl rfl hres ?hi ?ho ?h1 ?hB hst2 ?_; (case hi => kernel_rfl); (case ho => rfl); (case h1 => first | rfl | simp [Value.oneCell']); (case hB => first | omega | (simp <;> omega)); intro w2 hw2 hq2 _ _; replace hw2 := Lib.hid (show Stays _ w2 from hw2); obtain ⟨⟨x0, x1⟩, y0, y1⟩ := HC.out _ hw2.out; have z0 : w2.cell? ⟨w.heap.size + 1 + 1, 0, none⟩ = some (.int .i64 24) := cell_of_row _ _ 0 _ _ _ hq2; have z1 : w2.cell? ⟨w.heap.size + 1 + 1, 1, none⟩ = some (.int .i64 24) := cell_of_row _ _ 1 _ _ _ hq2; have z2 : w2.cell? ⟨w.heap.size + 1 + 1, 2, none⟩ = some (.slice none 0 0) := cell_of_row _ _ 2 _ _ _ hq2; clear hq2 hres hst2 hst)
      go_wp2_with fail
      refine (ka.out _).mono ?_
      rintro e w3 ⟨rfl, hw3⟩
      have c0 : w3.cell? ⟨w.heap.size + 1 + 1, 0, none⟩ = some (.int .i64 24) := (hw3.cell (World.block_lt_of_cell? _ _ z0)).trans z0
      have c1 : w3.cell? ⟨w.heap.size + 1 + 1, 1, none⟩ = some (.int .i64 24) := (hw3.cell (World.block_lt_of_cell? _ _ z1)).trans z1
      have c2 : w3.cell? ⟨w.heap.size + 1 + 1, 2, none⟩ = some (.slice none 0 0) := (hw3.cell (World.block_lt_of_cell? _ _ z2)).trans z2
      replace hw3 := Lib.hid (hw2.out.trans hw3)
      clear x0 x1 y0 y1 z0 z1 z2 hw2
      obtain ⟨⟨x0, x1⟩, y0, y1⟩ := HC.out _ hw3.out
      go_wp2_with fail
      refine (kb.out _).mono ?_
      rintro e w4 ⟨rfl, hw4⟩
      replace hw4 := Lib.hid (hw3.out.trans hw4)
      clear x0 x1 y0 y1 c0 c1 c2 hw3
      obtain ⟨⟨x0, x1⟩, y0, y1⟩ := HC.out _ hw4.out
      go_wp2
      go_ret2
      exact ⟨_, rfl, GrowL.nil _ _ _ _ _, hst0.out.trans hw4.out⟩
  | true =>
      obtain ⟨rfl, rfl⟩ := hgood.out (by rw [hS]; rfl)
      clear hgood hbad hS
      replace ka := Lib.hid ka
      replace kb := Lib.hid kb
      replace kL := Lib.hid (kL rfl rfl)
      go_enter Try.func27, Try.ntmps27
      go_wp2_with (refine wpList_store_row rfl _ _ _ rfl _ _ _ rfl rfl hres ?hi ?ho ?h1 ?hB hst2 ?_; (case hi => kernel_rfl); (case ho => rfl); (case h1 => first | rfl | simp [Value.oneCell']); (case hB => first | omega | (simp <;> omega)); intro w2 hw2 hq2 _ _; replace hw2 := Lib.hid (show Stays _ w2 from hw2); obtain ⟨⟨x0, x1⟩, y0, y1⟩ := HC.out _ hw2.out; have z0 : w2.cell? ⟨w.heap.size + 1 + 1, 0, none⟩ = some (.int .i64 24) := cell_of_row _ _ 0 _ _ _ hq2; have z1 : w2.cell? ⟨w.heap.size + 1 + 1, 1, none⟩ = some (.int .i64 24) := cell_of_row _ _ 1 _ _ _ hq2; have z2 : w2.cell? ⟨w.heap.size + 1 + 1, 2, none⟩ = some (.slice none 0 0) := cell_of_row _ _ 2 _ _ _ hq2; clear hq2 hres hst2 hst)
      go_wp2_with fail
      refine (ka.out _).mono ?_
      rintro e w3 ⟨rfl, hw3⟩
      have c0 : w3.cell? ⟨w.heap.size + 1 + 1, 0, none⟩ = some (.int .i64 24) := (hw3.cell (World.block_lt_of_cell? _ _ z0)).trans z0
      have c1 : w3.cell? ⟨w.heap.size + 1 + 1, 1, none⟩ = some (.int .i64 24) := (hw3.cell (World.block_lt_of_cell? _ _ z1)).trans z1
      have c2 : w3.cell? ⟨w.heap.size + 1 + 1, 2, none⟩ = some (.slice none 0 0) := (hw3.cell (World.block_lt_of_cell? _ _ z2)).trans z2
      replace hw3 := Lib.hid (hw2.out.trans hw3)
      clear x0 x1 y0 y1 z0 z1 z2 hw2
      obtain ⟨⟨x0, x1⟩, y0, y1⟩ := HC.out _ hw3.out
      go_wp2_with fail
      refine (kb.out _).mono ?_
      rintro e w4 ⟨rfl, hw4⟩
      replace hw4 := Lib.hid (hw3.out.trans hw4)
      clear x0 x1 y0 y1 c0 c1 c2 hw3
      obtain ⟨⟨x0, x1⟩, y0, y1⟩ := HC.out _ hw4.out
      go_wp2_with fail
      refine (kL.out _).mono ?_
      rintro e w5 ⟨v, rfl, hg, hs⟩
      have hf := Lib.hid (hst0.out.trans (hw4.out.trans hs))
      have hg2 := Lib.hid (hg.lower (hst0.out.trans hw4.out).size)
      clear hg hs
      go_wp2
      go_ret2
      exact ⟨_, rfl, hg2.out, hf.out⟩
end Go.Proofs.Yteidjmliepmlmaa
