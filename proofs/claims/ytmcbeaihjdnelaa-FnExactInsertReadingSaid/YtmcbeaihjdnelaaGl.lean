/- Lists of rows that grow. No condition. -/
import Derived.Test.YtmcbeaihjdnelaaGz
import Derived.Test.YtmcbeaihjdnelaaGv
import Derived.Deep.AppendLies
import Derived.Maps.AppendAt
namespace Go.Proofs.Ytmcbeaihjdnelaa
open Go Go.RowKit
set_option linter.unusedVariables false
set_option linter.unusedSimpArgs false

def RIn (K : List Kd) : List (List Value) → List (List NV) → Prop
  | [], [] => True
  | c :: cs, m :: ms => KMs K c m ∧ RIn K cs ms
  | _, _ => False

theorem RIn.snoc {K : List Kd} : ∀ {css : List (List Value)} {xs : List (List NV)} {c : List Value} {m : List NV}, RIn K css xs → KMs K c m → RIn K (css ++ [c]) (xs ++ [m])
  | [], [], _, _, _, h => ⟨h, trivial⟩
  | c :: cs, m :: ms, _, _, ⟨h1, h2⟩, h => ⟨h1, h2.snoc h⟩
  | [], _ :: _, _, _, h, _ => h.elim
  | _ :: _, [], _, _, h, _ => h.elim

theorem RIn.at_ {K : List Kd} {n : Nat} (hn : K.length = n) : ∀ {css : List (List Value)} {xs : List (List NV)}, RIn K css xs → ∀ {i : Nat} {m : List NV}, xs[i]? = some m → ∃ cs, KMs K cs m ∧ ∀ j u, cs[j]? = some u → css.flatten[i * n + j]? = some u
  | [], [], _, i, m, h => by simp at h
  | c :: cs, x :: xs, ⟨h1, h2⟩, 0, m, h => by
    cases h
    refine ⟨c, h1, fun j u hu => ?_⟩
    have hj := (List.getElem?_eq_some_iff.1 hu).1
    rw [List.flatten_cons, Nat.zero_mul, Nat.zero_add, List.getElem?_append_left hj]
    exact hu
  | c :: cs, x :: xs, ⟨h1, h2⟩, i + 1, m, h => by
    obtain ⟨cs', hk, hat⟩ := RIn.at_ hn h2 (i := i) (m := m) (by simpa using h)
    refine ⟨cs', hk, fun j u hu => ?_⟩
    have hl : c.length = n := (KMs_len h1).trans hn
    rw [List.flatten_cons, List.getElem?_append_right (by rw [hl, Nat.add_mul]; omega)]
    rw [show (i + 1) * n + j - c.length = i * n + j from by rw [hl, Nat.add_mul]; omega]
    exact hat j u hu

/-- A list of rows that grows in a block from B on. -/
structure GrowL (K : List Kd) (n : Nat) (t : TypeId) (B : Nat) (w : World) (v : Value) (xs : List (List NV)) : Prop where
  own : ∃ css : List (List Value), w.ownsRow B t n v xs.length css.flatten ∧ RIn K css xs

section
variable {K : List Kd} {n : Nat} {t : TypeId} {B : Nat} {w w' : World} {v : Value} {xs : List (List NV)}
theorem GrowL.nil (K : List Kd) (n : Nat) (t : TypeId) (B : Nat) (w : World) : GrowL K n t B w (.slice none 0 0) [] := ⟨[], World.ownsRow_nil _ _ _ _, trivial⟩
theorem GrowL.made (K : List Kd) (n : Nat) (t : TypeId) {B : Nat} (w : World) {H : Nat} (hH : w.heap.size = H) (hB : B ≤ w.heap.size) (cur : Array Value) (cap : Nat) (hm : cap ≤ maxLen) (hs : cur.size = cap * n) : GrowL K n t B (w.alloc (.cells cur t)) (.slice (some ⟨H, 0, none⟩) 0 cap) [] := by
  subst hH
  exact ⟨[], World.ownsRow_made w cur cap hB hm hs, trivial⟩
theorem GrowL.on (h : GrowL K n t B w v xs) (hs : ∀ g, B ≤ g → g < w.heap.size → w'.heap[g]? = w.heap[g]?) : GrowL K n t B w' v xs := by
  obtain ⟨css, ⟨h1, h2⟩, h3⟩ := h
  refine ⟨css, ⟨h1, ?_⟩, h3⟩
  rcases h2 with h2 | ⟨g, cap, cur, hv, hb, hg, hr⟩
  · exact .inl h2
  · exact .inr ⟨g, cap, cur, hv, hb, (hs g hb (Array.getElem?_eq_some_iff.1 hg).1).trans hg, hr⟩
theorem GrowL.stays (h : GrowL K n t B w v xs) (hs : Stays w w') : GrowL K n t B w' v xs := h.on fun g _ hg => Below.block hs g hg
theorem GrowL.lower {B' : Nat} (h : GrowL K n t B w v xs) (hB : B' ≤ B) : GrowL K n t B' w v xs := by
  obtain ⟨css, ⟨h1, h2⟩, h3⟩ := h
  refine ⟨css, ⟨h1, ?_⟩, h3⟩
  rcases h2 with h2 | ⟨g, cap, cur, hv, hb, hg⟩
  · exact .inl h2
  · exact .inr ⟨g, cap, cur, hv, Nat.le_trans hB hb, hg⟩
theorem GrowL.form (h : GrowL K n t B w v xs) : ∃ ao cv, v = .slice ao xs.length cv := by
  obtain ⟨css, ⟨_, h2⟩, _⟩ := h
  rcases h2 with ⟨rfl, h0⟩ | ⟨g, cap, cur, rfl, _⟩
  · exact ⟨none, 0, by rw [h0]⟩
  · exact ⟨_, _, rfl⟩
theorem GrowL.more {css : List (List Value)} {c : List Value} {m : List NV} (h : w.ownsRow B t n v (xs.length + 1) (css.flatten ++ c)) (hm : RIn K css xs) (hc : KMs K c m) : GrowL K n t B w v (xs ++ [m]) :=
  ⟨css ++ [c], by rw [List.flatten_append, List.length_append]; simpa using h, hm.snoc hc⟩
theorem GrowL.lies (hK : K.length = n) (h : GrowL K n t B w v xs) : ∃ g, B ≤ g ∧ LiesL K n w g v xs := by
  obtain ⟨css, ⟨_, h2⟩, h3⟩ := h
  rcases h2 with ⟨rfl, h0⟩ | ⟨g, cap, cur, rfl, hb, hg, hn, hc, hs, ht⟩
  · have : xs = [] := List.eq_nil_of_length_eq_zero h0
    subst this
    exact ⟨B, Nat.le_refl _, none, 0, rfl, fun h => absurd rfl h⟩
  · refine ⟨g, hb, _, _, rfl, fun _ => ⟨rfl, (Array.getElem?_eq_some_iff.1 hg).1, fun j hj => ?_, fun i r hr => ?_⟩⟩
    · refine ⟨?_, frozen_of_row _ _ _ _ _ hg⟩
      rw [cell_of_row _ _ _ _ _ _ hg]
      have : 0 + j < cur.size := by rw [hs]; have := Nat.mul_le_mul_right n hn; omega
      rw [Array.getElem?_eq_getElem this]; rfl
    · obtain ⟨cs, hk, hat⟩ := h3.at_ hK hr
      refine ⟨cs, hk, fun j u hu => ?_⟩
      have h1 := hat j u hu
      have hi := (List.getElem?_eq_some_iff.1 hr).1
      have hj : j < cs.length := (List.getElem?_eq_some_iff.1 hu).1
      have hl : cs.length = n := (KMs_len hk).trans hK
      have hlt : i * n + j < xs.length * n := by
        have := Nat.mul_le_mul_right n (show i + 1 ≤ xs.length from hi)
        rw [Nat.add_mul] at this
        omega
      rw [cell_of_row _ _ _ _ _ _ hg]
      rw [← ht, List.getElem?_take_of_lt hlt] at h1
      simpa using h1
end

section
variable {P : Program} {ops : Array Oper} {W : World} {S : FuncId → Array Value → Value → Prop} {A : List (Tmp × Array Value × TypeId)}

/-- A call of which it is known what it may give. -/
theorem soft_callX {fid : FuncId} {A0 : Array Value} {V : Value → Prop} {Q : Act → Prop} {a : Act} {o : Oper} {rest : List Oper} (hwa : Region.wanted o (yielded ops a.tmps) = true) (hA : (A.all fun e => o.dst != some e.1) = true)
    (h : ∀ w, Stays W w → (execOp a.eval o).run P w = .ok (.enter fid A0) w)
    (hc : ∀ w, Stays W w → Calls P fid A0 w fun e w' => ∃ v, e = .returned v ∧ V v ∧ Stays w w')
    (hS : ∀ v, V v → S fid A0 v) (hu : ∀ v, S fid A0 v → V v)
    (hK : ∀ v, V v → wpSoft P ops W S A Q rest (a.put o.dst v)) : wpSoft P ops W S A Q (o :: rest) a := by
  refine ⟨fun _ w hw => ?_, not_listed hA a, ?_, fun u hu' => ?_⟩
  · rw [h w hw]
    exact ⟨rfl, (hc w hw).mono fun e w' ⟨v, he, hv, hs⟩ => ⟨v, he, hS v hv, hs⟩⟩
  · obtain ⟨_, _, _, ⟨v, _, hv, _⟩, _⟩ := hc W (Stays.refl W) []
    exact ⟨v, Or.inl ⟨hwa, W, Stays.refl W, by rw [h W (Stays.refl W)]; exact hS v hv⟩⟩
  · rcases hu' with ⟨_, w, hw, hu'⟩ | ⟨hn, _⟩
    · rw [h w hw] at hu'
      exact hK u (hu u hu')
    · rw [hwa] at hn; cases hn
end

end Go.Proofs.Ytmcbeaihjdnelaa
