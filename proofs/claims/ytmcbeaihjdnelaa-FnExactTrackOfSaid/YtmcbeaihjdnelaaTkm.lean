/- Tracks of missions, by number. Tracks of missions, as the document has them. Tracks of missions, as the program has them. Missions that are written into. The law on TrackOf. No condition. -/
import Derived.Test.YtmcbeaihjdnelaaGl
import Derived.Test.YtmcbeaihjdnelaaB3
import Derived.Test.YtmcbeaihjdnelaaMsJ
import Derived.Test.YtmcbeaihjdnelaaSj
import Derived.Deep.CutRange
import Derived.Deep.RegionHeld
import Derived.Test.YtmcbeaihjdnelaaKVec
namespace Go.Proofs.Ytmcbeaihjdnelaa
open Go Go.RowKit
set_option linter.unusedVariables false
set_option linter.unusedSimpArgs false


abbrev P3 := Option Nat × Option Nat × Option Nat
noncomputable def addP (p s : P3) : P3 := (fop .add .f32 p.1 s.1, fop .add .f32 p.2.1 s.2.1, fop .add .f32 p.2.2 s.2.2)
noncomputable def mulP (p : P3) (t : Option Nat) : P3 := (fop .mul .f32 p.1 t, fop .mul .f32 p.2.1 t, fop .mul .f32 p.2.2 t)
def finP (p : P3) : Bool := finB p.1 && finB p.2.1 && finB p.2.2
def rowP (p : P3) : List NV := [.f p.1, .f p.2.1, .f p.2.2]
def nvP (r : List NV) (i : Nat) : P3 := ((r.getD i (.i 0)).gf, (r.getD (i + 1) (.i 0)).gf, (r.getD (i + 2) (.i 0)).gf)
/-- A row of three words and what it stands for. -/
def IsP (x y z : Nat) (p : P3) : Prop := FIs .f32 x p.1 ∧ FIs .f32 y p.2.1 ∧ FIs .f32 z p.2.2
noncomputable def tickO (hd : List NV) : Option Nat := fop .quo .f32 (can .f32 1065353216) (can .f32 (floatOfInt .f32 (hdR hd)))
noncomputable def itP (s : P3) : Nat → P3 → P3
  | 0, p => p
  | k + 1, p => addP (itP s k p) s
noncomputable def stpP (hd : List NV) (ls : List (List NV)) (i : Nat) : P3 := mulP (nvP (ls.getD i []) 1) (tickO hd)
def tkN (ls : List (List NV)) (i : Nat) : Nat := (tk (ls.getD i [])).toNat
noncomputable def baseP (hd : List NV) (ls : List (List NV)) : Nat → P3
  | 0 => nvP hd 1
  | i + 1 => itP (stpP hd ls i) (tkN ls i) (baseP hd ls i)
noncomputable def atP (hd : List NV) (ls : List (List NV)) (i k : Nat) : P3 := itP (stpP hd ls i) k (baseP hd ls i)
noncomputable def legL (s p : P3) : Nat → List (List NV)
  | 0 => []
  | k + 1 => legL s p k ++ [rowP (itP s (k + 1) p)]
noncomputable def outB (hd : List NV) (ls : List (List NV)) : Nat → List (List NV)
  | 0 => [rowP (nvP hd 1)]
  | i + 1 => outB hd ls i ++ legL (stpP hd ls i) (baseP hd ls i) (tkN ls i)
noncomputable def outK (hd : List NV) (ls : List (List NV)) (i k : Nat) : List (List NV) := outB hd ls i ++ legL (stpP hd ls i) (baseP hd ls i) k
def AllF (hd : List NV) (ls : List (List NV)) : Prop := ∀ i, i < ls.length → ∀ k, k < tkN ls i → finP (atP hd ls i (k + 1)) = true
open Classical in
noncomputable def trC (hd : List NV) (bs ls : List (List NV)) : Int := if missionB hd bs ls = true then (if AllF hd ls then 0 else 4) else 1
open Classical in
noncomputable def trX (hd : List NV) (bs ls : List (List NV)) : List (List NV) := if missionB hd bs ls = true then (if AllF hd ls then outB hd ls ls.length else []) else []

theorem atP_zero (hd : List NV) (ls : List (List NV)) (i : Nat) : atP hd ls i 0 = baseP hd ls i := rfl
theorem atP_succ (hd : List NV) (ls : List (List NV)) (i k : Nat) : atP hd ls i (k + 1) = addP (atP hd ls i k) (stpP hd ls i) := rfl
theorem atP_end (hd : List NV) (ls : List (List NV)) (i : Nat) : baseP hd ls (i + 1) = atP hd ls i (tkN ls i) := rfl
theorem outK_zero (hd : List NV) (ls : List (List NV)) (i : Nat) : outK hd ls i 0 = outB hd ls i := List.append_nil _
theorem outK_succ (hd : List NV) (ls : List (List NV)) (i k : Nat) : outK hd ls i (k + 1) = outK hd ls i k ++ [rowP (atP hd ls i (k + 1))] := (List.append_assoc _ _ _).symm
theorem outK_end (hd : List NV) (ls : List (List NV)) (i : Nat) : outB hd ls (i + 1) = outK hd ls i (tkN ls i) := rfl

theorem legL_len (s p : P3) : ∀ k, (legL s p k).length = k
  | 0 => rfl
  | k + 1 => by
    show (legL s p k ++ [_]).length = k + 1
    rw [List.length_append, legL_len s p k]; rfl

theorem leg_bd {hd : List NV} {bs ls : List (List NV)} (h : missionB hd bs ls = true) : ls.length ≤ 64 ∧ ∀ i, i < ls.length → 1 ≤ tk (ls.getD i []) ∧ tk (ls.getD i []) ≤ 400 := by
  unfold missionB at h
  simp only [Bool.and_eq_true, decide_eq_true_eq] at h
  refine ⟨h.2.1, fun i hi => ?_⟩
  have e : ls.getD i [] = ls[i] := by rw [List.getD_eq_getElem?_getD, List.getElem?_eq_getElem hi]; rfl
  rw [e]
  exact legB_tk (List.all_eq_true.1 h.2.2.1 _ (List.getElem_mem hi))

theorem outB_len {hd : List NV} {ls : List (List NV)} (h : ∀ i, i < ls.length → 1 ≤ tk (ls.getD i []) ∧ tk (ls.getD i []) ≤ 400) : ∀ i, i ≤ ls.length → (outB hd ls i).length ≤ 1 + 400 * i
  | 0, _ => Nat.le_refl _
  | i + 1, hi => by
    have h1 := outB_len (hd := hd) h i (by omega)
    have h2 := (h i (by omega)).2
    show (outB hd ls i ++ legL _ _ (tkN ls i)).length ≤ _
    rw [List.length_append, legL_len]
    unfold tkN
    omega
theorem outK_len {hd : List NV} {ls : List (List NV)} (h : ∀ i, i < ls.length → 1 ≤ tk (ls.getD i []) ∧ tk (ls.getD i []) ≤ 400) (i k : Nat) (hi : i ≤ ls.length) : (outK hd ls i k).length ≤ 1 + 400 * i + k := by
  unfold outK
  rw [List.length_append, legL_len]
  have := outB_len (hd := hd) h i hi
  omega

theorem tr_bad {hd : List NV} {bs ls : List (List NV)} (h : missionB hd bs ls = false) : trC hd bs ls = 1 ∧ trX hd bs ls = [] := by
  unfold trC trX
  rw [if_neg (by rw [h]; exact Bool.false_ne_true), if_neg (by rw [h]; exact Bool.false_ne_true)]
  exact ⟨rfl, rfl⟩
theorem tr_state {hd : List NV} {bs ls : List (List NV)} (h : missionB hd bs ls = true) {i k : Nat} (hi : i < ls.length) (hk : k < tkN ls i) (hf : finP (atP hd ls i (k + 1)) = false) : trC hd bs ls = 4 ∧ trX hd bs ls = [] := by
  have hn : ¬ AllF hd ls := fun g => by rw [g i hi k hk] at hf; cases hf
  unfold trC trX
  rw [if_pos h, if_pos h, if_neg hn, if_neg hn]
  exact ⟨rfl, rfl⟩
theorem tr_good {hd : List NV} {bs ls : List (List NV)} (h : missionB hd bs ls = true) (hA : AllF hd ls) : trC hd bs ls = 0 ∧ trX hd bs ls = outB hd ls ls.length := by
  unfold trC trX
  rw [if_pos h, if_pos h, if_pos hA, if_pos hA]
  exact ⟨rfl, rfl⟩
theorem trX_len (hd : List NV) (bs ls : List (List NV)) : (trX hd bs ls).length ≤ 1048576 := by
  unfold trX
  split
  · rename_i h
    split
    · have h2 := leg_bd h
      have := outB_len (hd := hd) h2.2 ls.length (Nat.le_refl _)
      omega
    · simp
  · simp
/-- All numbers ahead of leg i, and the first k of it, are finite. -/
def FinTo (hd : List NV) (ls : List (List NV)) (i k : Nat) : Prop := (∀ i', i' < i → ∀ k', k' < tkN ls i' → finP (atP hd ls i' (k' + 1)) = true) ∧ ∀ k', k' < k → finP (atP hd ls i (k' + 1)) = true
theorem FinTo.zero (hd : List NV) (ls : List (List NV)) : FinTo hd ls 0 0 := ⟨fun i h => by omega, fun k h => by omega⟩
theorem FinTo.next {hd : List NV} {ls : List (List NV)} {i k : Nat} (h : FinTo hd ls i k) (hf : finP (atP hd ls i (k + 1)) = true) : FinTo hd ls i (k + 1) :=
  ⟨h.1, fun k' hk => by
    rcases Nat.lt_or_ge k' k with g | g
    · exact h.2 k' g
    · rw [show k' = k by omega]; exact hf⟩
theorem FinTo.leg {hd : List NV} {ls : List (List NV)} {i k : Nat} (h : FinTo hd ls i k) (hk : tkN ls i ≤ k) : FinTo hd ls (i + 1) 0 :=
  ⟨fun i' hi k' hk' => by
    rcases Nat.lt_or_ge i' i with g | g
    · exact h.1 i' g k' hk'
    · have e : i' = i := by omega
      subst e
      exact h.2 k' (by omega), fun k' hk' => by omega⟩
theorem FinTo.all {hd : List NV} {ls : List (List NV)} {i : Nat} (h : FinTo hd ls i 0) (hi : ls.length ≤ i) : AllF hd ls := fun i' hi' k hk => h.1 i' (by omega) k hk

theorem shm3 {x y z : Nat} {r : List NV} (h : ShM (.agg KVec) (.agg #[.float .f32 x, .float .f32 y, .float .f32 z]) r) : IsP x y z (nvP r 0) := by
  obtain ⟨cs, e, hk⟩ := h
  cases e
  have hr := KMs_rlen hk
  match r, hr, hk with
  | [n0, n1, n2], _, ⟨⟨x', hx, hfx⟩, ⟨y', hy, hfy⟩, ⟨z', hz, hfz⟩, _⟩ =>
    cases hx; cases hy; cases hz
    exact ⟨hfx, hfy, hfz⟩
theorem start_is {r : Int} {x y z : Nat} {hd : List NV} (h : HdK r x y z hd) : IsP x y z (nvP hd 1) := by
  have := shm3 h.shm
  unfold nvP at this ⊢
  simpa [List.getD_eq_getElem?_getD, Nat.add_comm] using this
theorem leg_is {x y z : Nat} {r : List NV} (h : ShM (.agg KVec) (.agg #[.float .f32 x, .float .f32 y, .float .f32 z]) ((r.drop 1).take 3)) : IsP x y z (nvP r 1) := by
  have := shm3 h
  unfold nvP at this ⊢
  simpa [List.getD_eq_getElem?_getD, List.getElem?_take, Nat.add_comm] using this

theorem addP_is {x y z a b c u v t : Nat} {p s : P3} (hp : IsP x y z p) (hs : IsP a b c s) (h1 : FIs .f32 u (fop .add .f32 (can .f32 x) (can .f32 a))) (h2 : FIs .f32 v (fop .add .f32 (can .f32 y) (can .f32 b))) (h3 : FIs .f32 t (fop .add .f32 (can .f32 z) (can .f32 c))) : IsP u v t (addP p s) :=
  ⟨h1.of_eq (by rw [hp.1.out, hs.1.out]; rfl), h2.of_eq (by rw [hp.2.1.out, hs.2.1.out]; rfl), h3.of_eq (by rw [hp.2.2.out, hs.2.2.out]; rfl)⟩
theorem mulP_is {x y z d u v t : Nat} {p : P3} {o : Option Nat} (hp : IsP x y z p) (hd : FIs .f32 d o) (h1 : FIs .f32 u (fop .mul .f32 (can .f32 x) (can .f32 d))) (h2 : FIs .f32 v (fop .mul .f32 (can .f32 y) (can .f32 d))) (h3 : FIs .f32 t (fop .mul .f32 (can .f32 z) (can .f32 d))) : IsP u v t (mulP p o) :=
  ⟨h1.of_eq (by rw [hp.1.out, hd.out]; rfl), h2.of_eq (by rw [hp.2.1.out, hd.out]; rfl), h3.of_eq (by rw [hp.2.2.out, hd.out]; rfl)⟩
theorem finP_is {x y z : Nat} {p : P3} (hp : IsP x y z p) : finV x y z = finP p := by
  unfold finV finP
  rw [hp.1.out, hp.2.1.out, hp.2.2.out]
theorem rowP_is {x y z : Nat} {p : P3} (hp : IsP x y z p) : KMs KVec [.float .f32 x, .float .f32 y, .float .f32 z] (rowP p) := ⟨⟨x, rfl, hp.1⟩, ⟨y, rfl, hp.2.1⟩, ⟨z, rfl, hp.2.2⟩, trivial⟩

def V3row (x y z : Nat) : Array Value := #[.float .f32 x, .float .f32 y, .float .f32 z]
/-- What both loops keep: a place in a block, a list that grows behind it. -/
structure TkS (w : World) (p : Nat) (ps : P3) (v : Value) (xs : List (List NV)) (wr : World) : Prop where
  st : Stays w wr
  ge : w.heap.size ≤ p
  row : ∃ x y z, wr.heap[p]? = some (.cells #[.float .f32 x, .float .f32 y, .float .f32 z] 28 (0, 0)) ∧ IsP x y z ps
  gr : GrowL KVec 3 28 (p + 1) wr v xs
/-- And a step in a block of its own. -/
structure TkQ (p q : Nat) (ss : P3) (v : Value) (wr : World) : Prop where
  gt : p < q
  own : v.ownBlock ≠ some q
  row : ∃ x y z, wr.heap[q]? = some (.cells #[.float .f32 x, .float .f32 y, .float .f32 z] 28 (0, 0)) ∧ IsP x y z ss
section
variable {w wr w' : World} {p q : Nat} {ps ss : P3} {v : Value} {xs : List (List NV)}
theorem TkS.on (h : TkS w p ps v xs wr) (hb : Stays wr w') : TkS w p ps v xs w' := by
  obtain ⟨x, y, z, hr, hp⟩ := h.row
  exact ⟨h.st.trans hb, h.ge, ⟨x, y, z, (Below.block hb _ (in_heap hr)).trans hr, hp⟩, h.gr.stays hb⟩
theorem TkQ.on (h : TkQ p q ss v wr) (hb : Stays wr w') : TkQ p q ss v w' := by
  obtain ⟨x, y, z, hr, hp⟩ := h.row
  exact ⟨h.gt, h.own, ⟨x, y, z, (Below.block hb _ (in_heap hr)).trans hr, hp⟩⟩
theorem TkS.cells (h : TkS w p ps v xs wr) : ∃ x y z, (wr.cell? ⟨p, 0, none⟩ = some (.float .f32 x) ∧ wr.cell? ⟨p, 1, none⟩ = some (.float .f32 y) ∧ wr.cell? ⟨p, 2, none⟩ = some (.float .f32 z)) ∧ Hid (wr.heap[p]? = some (.cells #[.float .f32 x, .float .f32 y, .float .f32 z] 28 (0, 0))) ∧ Hid (IsP x y z ps) := by
  obtain ⟨x, y, z, hr, hp⟩ := h.row
  exact ⟨x, y, z, ⟨cell_of_row _ _ _ _ _ _ hr, cell_of_row _ _ _ _ _ _ hr, cell_of_row _ _ _ _ _ _ hr⟩, Lib.hid hr, Lib.hid hp⟩
theorem TkQ.cells (h : TkQ p q ss v wr) : ∃ x y z, (wr.cell? ⟨q, 0, none⟩ = some (.float .f32 x) ∧ wr.cell? ⟨q, 1, none⟩ = some (.float .f32 y) ∧ wr.cell? ⟨q, 2, none⟩ = some (.float .f32 z)) ∧ Hid (wr.heap[q]? = some (.cells #[.float .f32 x, .float .f32 y, .float .f32 z] 28 (0, 0))) ∧ Hid (IsP x y z ss) := by
  obtain ⟨x, y, z, hr, hp⟩ := h.row
  exact ⟨x, y, z, ⟨cell_of_row _ _ _ _ _ _ hr, cell_of_row _ _ _ _ _ _ hr, cell_of_row _ _ _ _ _ _ hr⟩, Lib.hid hr, Lib.hid hp⟩
/-- The place is written anew. -/
theorem TkS.set (h : TkS w p ps v xs wr) {x y z : Nat} {ps' : P3} (hst : Stays w w') (hq : w'.heap[p]? = some (.cells #[.float .f32 x, .float .f32 y, .float .f32 z] 28 (0, 0))) (hoth : ∀ k, k < wr.heap.size → k ≠ p → w'.heap[k]? = wr.heap[k]?) (hp : IsP x y z ps') : TkS w p ps' v xs w' :=
  ⟨hst, h.ge, ⟨x, y, z, hq, hp⟩, h.gr.on fun g hg hlt => hoth g hlt (by omega)⟩
theorem TkQ.set (h : TkQ p q ss v wr) (hoth : ∀ k, k < wr.heap.size → k ≠ p → w'.heap[k]? = wr.heap[k]?) : TkQ p q ss v w' := by
  obtain ⟨x, y, z, hr, hp⟩ := h.row
  exact ⟨h.gt, h.own, ⟨x, y, z, (hoth q (in_heap hr) (by have := h.gt; omega)).trans hr, hp⟩⟩
/-- The list has one more. -/
theorem TkS.more (h : TkS w p ps v xs wr) {v' : Value} {css : List (List Value)} {c : List Value} {m : List NV} {X : Obj} (hown : wr.ownsRow (p + 1) 28 3 v xs.length css.flatten) (hown' : w'.ownsRow (p + 1) 28 3 v' (xs.length + 1) (css.flatten ++ c)) (hin : RIn KVec css xs) (hc : KMs KVec c m) (hg : (wr.alloc X).grownBy w' v.ownBlock) : TkS w p ps v' (xs ++ [m]) w' := by
  obtain ⟨x, y, z, hr, hp⟩ := h.row
  have hlt := in_heap hr
  have hl := hown.lt
  have hne : p ≠ wr.heap.size := by omega
  refine ⟨Below.grown (Stays.trans h.st (show Stays wr (wr.alloc X) from (Stays.refl wr).alloc _)) hg (Nat.le_trans h.st.size (by simp)) (fun k hk => by have := (hl k hk).1; have := h.ge; omega), h.ge, ⟨x, y, z, ?_, hp⟩, GrowL.more hown' hin hc⟩
  refine (hg.block p (by simp; omega) (fun e => by have := (hl p e.symm).1; omega)).trans ?_
  exact ((Stays.refl wr).alloc X).heap hlt hr
theorem TkQ.more (h : TkQ p q ss v wr) {v' : Value} {X : Obj} (hg : (wr.alloc X).grownBy w' v.ownBlock) (ho : v'.ownBlock = v.ownBlock ∨ v'.ownBlock = some (wr.alloc X).heap.size) : TkQ p q ss v' w' := by
  obtain ⟨x, y, z, hr, hp⟩ := h.row
  have hlt := in_heap hr
  refine ⟨h.gt, ?_, ⟨x, y, z, ?_, hp⟩⟩
  · rcases ho with e | e
    · rw [e]; exact h.own
    · rw [e]
      intro e2
      have := Option.some.inj e2
      simp at this
      omega
  · refine (hg.block q (by simp; omega) (fun e => h.own e.symm)).trans ?_
    exact ((Stays.refl wr).alloc X).heap hlt hr
theorem TkS.ownNe (h : TkS w p ps v xs wr) (hq : wr.heap.size ≤ q) : v.ownBlock ≠ some q := fun e => by
  obtain ⟨css, ho, _⟩ := h.gr.own
  have := (ho.lt q e).2
  omega
end

def TDone (w : World) (code : Int) (xs : List (List NV)) (e : Ending) (w' : World) : Prop := ∃ g A c, e = .returned (.tuple #[.slice A xs.length c, .int .i64 code]) ∧ Stays w w' ∧ w.heap.size ≤ g ∧ LiesL KVec 3 w' g (.slice A xs.length c) xs
theorem TDone.nil {w w' : World} (hs : Stays w w') (code : Int) : TDone w code [] (.returned (.tuple #[.slice none 0 0, .int .i64 code])) w' := ⟨w.heap.size, none, 0, rfl, hs, Nat.le_refl _, none, 0, rfl, fun h => absurd rfl h⟩
theorem TDone.some {w w' : World} (hs : Stays w w') (code : Int) (B : Nat) : TDone w code [] (.returned (.tuple #[.slice (some ⟨B, 0, none⟩) 0 0, .int .i64 code])) w' := ⟨w.heap.size, _, 0, rfl, hs, Nat.le_refl _, _, 0, rfl, fun h => absurd rfl h⟩
theorem TkS.done {w wr : World} {p : Nat} {ps : P3} {ao : Option Addr} {nn cv : Nat} {xs : List (List NV)} (h : TkS w p ps (.slice ao nn cv) xs wr) (code : Int) : TDone w code xs (.returned (.tuple #[.slice ao nn cv, .int .i64 code])) wr := by
  obtain ⟨A, c, e⟩ := h.gr.form
  obtain ⟨g, hg, hL⟩ := h.gr.lies (K := KVec) rfl
  cases e
  exact ⟨g, _, _, rfl, h.st, by have := h.ge; omega, hL⟩
theorem TDone.under {w w0 w' : World} {code : Int} {xs : List (List NV)} {e : Ending} (h : TDone w0 code xs e w') (hs : Stays w w0) : TDone w code xs e w' := by
  obtain ⟨g, A, c, rfl, hb, hg, hL⟩ := h
  exact ⟨g, A, c, rfl, hs.trans hb, Nat.le_trans hs.size hg, hL⟩

end Go.Proofs.Ytmcbeaihjdnelaa

namespace Go.Proofs.Ytmcbeaihjdnelaa
open Go Go.RowKit
set_option linter.unusedVariables false
set_option linter.unusedSimpArgs false


def scS (F : FuncId) (f : FuncId) (args : Array Value) (v : Value) : Prop := f = F → ∀ a b c d, args = #[.agg #[.float .f32 a, .float .f32 b, .float .f32 c], .float .f32 d] → r_ScaleVec a b c d v
theorem scS_1 {F : FuncId} {a b c d : Nat} {v : Value} : scS F F #[.agg #[.float .f32 a, .float .f32 b, .float .f32 c], .float .f32 d] v ↔ r_ScaleVec a b c d v :=
  ⟨fun h => h rfl _ _ _ _ rfl, fun h _ a' b' c' d' e => by cases e; exact h⟩

theorem TkS.first {w W : World} {p q x y z : Nat} {ps : P3} (hst : Stays w W) (hge : w.heap.size ≤ p) (hp : W.heap[p]? = some (.cells #[.float .f32 x, .float .f32 y, .float .f32 z] 28 (0, 0))) (hq : W.heap[q]? = some (.cells #[.float .f32 x, .float .f32 y, .float .f32 z] 28 (0, 0))) (hpq : p < q) (hi : IsP x y z ps) : TkS w p ps (.slice (some ⟨q, 0, none⟩) 1 1) [rowP ps] W :=
  ⟨hst, hge, ⟨x, y, z, hp, hi⟩, ⟨[[.float .f32 x, .float .f32 y, .float .f32 z]], ⟨rfl, Or.inr ⟨q, 1, _, rfl, hpq, hq, Nat.le_refl _, by unfold maxLen; omega, rfl, rfl⟩⟩, ⟨rowP_is hi, trivial⟩⟩⟩

set_option maxRecDepth 100000 in
set_option maxHeartbeats 4000000 in
theorem c_l08Track (p0 : Nat) (r : Int) (x y z : Nat) (A A' : Option Addr) (c c' : Nat) (hd : List NV) (bs ls : List (List NV)) (w : World) (hh : HdK r x y z hd) (h' : Ls KLeg 6 w w.heap.size A' ls)
    (hg : w.heap[p0]? = some (.cells #[.int .i64 r, .float .f32 x, .float .f32 y, .float .f32 z, .slice A bs.length c, .slice A' ls.length c'] 99 (0, 0))) (hv : missionB hd bs ls = true) (hm : ls.length ≤ 1048576) :
    Calls Try.prog 96 #[.pointer (some ⟨p0, 0, none⟩)] w (TDone w (trC hd bs ls) (trX hd bs ls)) := by
  have H' := Lib.hid h'
  obtain ⟨h64, hleg⟩ := leg_bd hv
  replace hleg := Lib.hid hleg
  have hbad := Lib.hid fun i k hi hk hf => tr_state (i := i) (k := k) hv hi hk hf
  have hgood := Lib.hid fun hA => tr_good hv hA
  have HB := Lib.hid fun W (hW : Stays w W) => row_of hW hg
  obtain ⟨i0, hi0, hz0, hz1, hz2⟩ := info_parts infoVec
  have hsta := start_is hh
  have hr0 : Hid (hdR hd = r) := Lib.hid hh.r.symm
  have T0 := Lib.hid (TkS.first (w := w) (W := ((w.alloc (.cells #[.float .f32 x, .float .f32 y, .float .f32 z] 28)).alloc (.cells #[.float .f32 x, .float .f32 y, .float .f32 z] 28))) (p := w.heap.size) (q := w.heap.size + 1) (ps := nvP hd 1) (by (repeat (first | exact Stays.refl _ | (with_reducible refine Stays.drewN ?_ _) | (with_reducible refine Stays.alloc ?_ _) | (with_reducible refine Stays.drew ?_) | (refine Stays.trans ?_ ‹Stays _ _›)))) (Nat.le_refl _) (by (repeat (first | (refine heap_top _ _ _ ?_; simp; done) | (with_reducible refine heap_drawn _ _ _ ?_) | (with_reducible refine heap_under _ _ _ ?_ ?_; (simp <;> omega))))) (by (repeat (first | (refine heap_top _ _ _ ?_; simp; done) | (with_reducible refine heap_drawn _ _ _ ?_) | (with_reducible refine heap_under _ _ _ ?_ ?_; (simp <;> omega))))) (by omega) hsta)
  have hcw := HB.out w (Stays.refl _)
  clear h' hh hg hv hsta
  go_enter Try.func96, Try.ntmps96
  go_wp2_with fail
  clear hcw
  generalize ((w.alloc (.cells #[.float .f32 x, .float .f32 y, .float .f32 z] 28)).alloc (.cells #[.float .f32 x, .float .f32 y, .float .f32 z] 28)) = W0 at T0 ⊢
  go_loopw [5, 6, 7] (fun v iv sv wr => ∃ (i : Nat) (ao : Option Addr) (nn cv : Nat), i ≤ ls.length ∧ iv = .int .i64 (i : Nat) ∧ v = .slice ao nn cv ∧ Hid (nn = (outB hd ls i).length) ∧ Hid (TkS w w.heap.size (baseP hd ls i) v (outB hd ls i) wr) ∧ Hid (FinTo hd ls i 0) ∧ Hid (∀ p, sv = .pointer (some ⟨p, 0, none⟩) → p < wr.heap.size)) (fun _ iv _ _ => ls.length - (intOf iv).toNat)
  case atStart => exact ⟨0, _, _, _, Nat.zero_le _, rfl, rfl, Lib.hid rfl, T0, Lib.hid (FinTo.zero hd ls), Lib.hid (fun p e => by cases e)⟩
  case round =>
    clear T0
    obtain ⟨i, ao, nn, cv, hin0, rfl, rfl, hnn, T0, F, hsv⟩ := hrel
    have hlen := outB_len (hd := hd) hleg.out i hin0
    have hcb := HB.out _ T0.out.st
    by_cases hlt : i < ls.length
    · have hlt' : (i : Int) < (ls.length : Int) := by omega
      obtain ⟨ad, rfl, hbl, hrow⟩ := (H'.out.below (show Below w.heap.size w wr from T0.out.st)) i ls[i] (List.getElem?_eq_getElem hlt)
      have hgd : ls.getD i [] = ls[i] := by rw [List.getD_eq_getElem?_getD, List.getElem?_eq_getElem hlt]; rfl
      obtain ⟨hl1, hl2⟩ := hleg.out i hlt
      have hsp : Hid (stpP hd ls i = mulP (nvP (ls.getD i []) 1) (tickO hd)) := Lib.hid rfl
      have hkk : Hid (tkN ls i = (tk (ls.getD i [])).toNat) := Lib.hid rfl
      rw [hgd] at hl1 hl2 hsp hkk
      generalize ls[i] = rr at hrow hl1 hl2 hsp hkk
      clear hgd
      obtain ⟨c0, c1, c2, c3, c4, c5, hK, g0, g1, g2, g3, g4, g5⟩ := row6 rfl hrow
      obtain ⟨t, fx, b, x', y', z', ecs, ht, hfx, hb5, hsh⟩ := leg_cells hK
      cases ecs
      have hvel := Lib.hid (leg_is hsh)
      replace ht : tk rr = t := ht
      rw [ht] at hl1 hl2 hkk
      have hTN : ((tkN ls i : Nat) : Int) = t := by rw [hkk.out]; omega
      have hT4 : tkN ls i ≤ 400 := by omega
      replace hTN := Lib.hid hTN
      clear hkk hfx hb5 hsh hK hrow ht
      have hA1 : ∀ n, (ad.add n).block < w.heap.size := fun n => by rw [block_add]; exact hbl
      have G : Hid (∀ w', Stays w w' → w'.cell? (ad.add (i * 6)) = some (.int .i64 t) ∧ w'.cell? ⟨(ad.add (i * 6)).block, (ad.add (i * 6)).off + 1, none⟩ = some (.float .f32 x') ∧ w'.cell? ⟨(ad.add (i * 6)).block, (ad.add (i * 6)).off + 1 + 1, none⟩ = some (.float .f32 y') ∧ w'.cell? ⟨(ad.add (i * 6)).block, (ad.add (i * 6)).off + 1 + 2, none⟩ = some (.float .f32 z') ∧ w'.cell? ⟨(ad.add (i * 6)).block, (ad.add (i * 6)).off + 4, none⟩ = some (.int .i64 fx) ∧ w'.cell? ⟨(ad.add (i * 6)).block, (ad.add (i * 6)).off + 5, none⟩ = some (.int .i64 b)) := Lib.hid fun w' hs =>
        ⟨(Below.cell hs (hA1 _)).trans ((Below.cell T0.out.st (hA1 _)).symm.trans g0), (Below.cell (p := ⟨(ad.add (i * 6)).block, _, none⟩) hs (hA1 _)).trans ((Below.cell (p := ⟨(ad.add (i * 6)).block, _, none⟩) T0.out.st (hA1 _)).symm.trans g1), (Below.cell (p := ⟨(ad.add (i * 6)).block, _, none⟩) hs (hA1 _)).trans ((Below.cell (p := ⟨(ad.add (i * 6)).block, _, none⟩) T0.out.st (hA1 _)).symm.trans g2), (Below.cell (p := ⟨(ad.add (i * 6)).block, _, none⟩) hs (hA1 _)).trans ((Below.cell (p := ⟨(ad.add (i * 6)).block, _, none⟩) T0.out.st (hA1 _)).symm.trans g3), (Below.cell (p := ⟨(ad.add (i * 6)).block, _, none⟩) hs (hA1 _)).trans ((Below.cell (p := ⟨(ad.add (i * 6)).block, _, none⟩) T0.out.st (hA1 _)).symm.trans g4), (Below.cell (p := ⟨(ad.add (i * 6)).block, _, none⟩) hs (hA1 _)).trans ((Below.cell (p := ⟨(ad.add (i * 6)).block, _, none⟩) T0.out.st (hA1 _)).symm.trans g5)⟩
      clear g0 g1 g2 g3 g4 g5 hA1
      have hcells : ∀ w1, Stays wr w1 → _ := fun w1 h => And.intro (HB.out w1 (Stays.trans T0.out.st h)) (G.out w1 (Stays.trans T0.out.st h))
      go_upto_region 6 with fail
      refine wp_region_soft_tail2 16 (Stays.refl _) (scS 123) [(7, #[.float .f32 0, .float .f32 0, .float .f32 0], 28)] (by kernel_rfl) (by kernel_rfl) (fun e he p hp => by cases List.mem_singleton.1 he; exact hsv.out p hp) ?_
      simp only [List.take_succ_cons, List.take_zero, List.drop_succ_cons, List.drop_zero]
      repeat ((with_reducible apply soft_detG); (case hwa => rfl); (case hA => rfl); (case h => (intro w1 hw1; have hc := hcells w1 hw1; go_simp; exact rfl)); go_simp)
      ((with_reducible refine soft_fop rfl ?hA _ _ _ _ _ rfl rfl _ _ _ rfl rfl ?_); (case hA => rfl); intro r1 hr1; go_simp)
      repeat ((with_reducible apply soft_detG); (case hwa => rfl); (case hA => rfl); (case h => (intro w1 hw1; have hc := hcells w1 hw1; go_simp; exact rfl)); go_simp)
      refine soft_callX (A0 := #[.agg #[.float .f32 x', .float .f32 y', .float .f32 z'], .float .f32 r1]) (by rfl) rfl ?h (fun w2 _ => c_specScaleVec x' y' z' r1 w2) (fun v hv => scS_1.2 hv) (fun v hv => scS_1.1 hv) ?_
      case h => (intro w1 hw1; have hc := hcells w1 hw1; go_simp; try exact ⟨rfl, rfl⟩)
      rintro v ⟨s0, s1, s2, rfl, f0, f1, f2⟩
      go_simp
      refine soft_alloc (cs := #[.float .f32 0, .float .f32 0, .float .f32 0]) (t := 28) rfl rfl ?hA ?h ?hK
      case hA => intro e he hd; simp at he; first | rw [he] | (rcases he with rfl | rfl <;> first | rfl | simp at hd)
      case h => intro w1 hw1; go_simp
      case hK =>
      intro q hq
      go_simp
      refine soft_nil ?_
      rintro w10 ⟨hw10, hk⟩
      have hk2 : w10.heap[q]? = some (.cells #[.float .f32 0, .float .f32 0, .float .f32 0] 28 (0, 0)) := hk _ (List.mem_singleton.2 rfl) q hq rfl
      clear hk
      refine wpList_store_row rfl _ _ _ rfl q _ _ rfl rfl hk2 ?hi ?ho ?h1 hq hw10 ?_
      case hi => kernel_rfl
      case ho => rfl
      case h1 => first | rfl | simp [Value.oneCell']
      intro w11 hw11 hq11 hoth hsam
      have hstep := Lib.hid (mulP_is hvel.out (hr1.of_eq (show _ = tickO hd from by unfold tickO; rw [hr0.out])) f0 f1 f2)
      rw [← hsp.out] at hstep
      have T1 := Lib.hid (T0.out.on hw11)
      have Q1 : Hid (TkQ w.heap.size q (stpP hd ls i) (.slice ao nn cv) w11) := Lib.hid ⟨Nat.lt_of_lt_of_le (by obtain ⟨_, _, _, hrr, _⟩ := T0.out.row; exact in_heap hrr) hq, T0.out.ownNe hq, ⟨s0, s1, s2, hq11, hstep.out⟩⟩
      clear hoth hsam hw10 hk2 hcells hcb f0 f1 f2 hr1
      go_wp2_with fail
      go_loopw [5, 8] (fun v kv wr => ∃ (k : Nat) (ao : Option Addr) (nn cv : Nat), k ≤ tkN ls i ∧ kv = .int .i64 (k : Nat) ∧ v = .slice ao nn cv ∧ Hid (nn = (outK hd ls i k).length) ∧ Hid (TkS w w.heap.size (atP hd ls i k) v (outK hd ls i k) wr) ∧ Hid (TkQ w.heap.size q (stpP hd ls i) v wr) ∧ Hid (FinTo hd ls i k)) (fun _ kv _ => tkN ls i - (intOf kv).toNat)
      case atStart => exact ⟨0, _, _, _, Nat.zero_le _, rfl, rfl, by rw [outK_zero]; exact hnn, by rw [outK_zero]; exact T1, Q1, F⟩
      case round =>
        clear T1 Q1 hnn F T0
        obtain ⟨k, ao, nn, cv, hkle, rfl, rfl, hnn, T, Q, F⟩ := hrel
        have hlenk := outK_len (hd := hd) hleg.out i k hin0
        have hnn' : nn ≤ 1 + 400 * i + k := by rw [hnn.out]; exact hlenk
        have hcb := HB.out _ T.out.st
        obtain ⟨g0, g1, g2, g3, g4, g5⟩ := G.out _ (T.out.st)
        by_cases hk : k < tkN ls i
        · have hk' : (k : Int) < t := by have := hTN.out; omega
          have hkN := hk
          obtain ⟨x0, y0, z0, ⟨a0, a1, a2⟩, hr0, hi0'⟩ := T.out.cells
          obtain ⟨x1, y1, z1, ⟨b0, b1, b2⟩, hr1, hi1⟩ := Q.out.cells
          go_wp2_with fail
          refine (c_specAddVec x0 y0 z0 x1 y1 z1 _).mono ?_
          rintro e w5 ⟨v5, rfl, ⟨u0, u1, u2, rfl, f0, f1, f2⟩, hw5⟩
          have hnew := Lib.hid (addP_is hi0'.out hi1.out f0 f1 f2)
          replace T := Lib.hid (T.out.on hw5)
          replace Q := Lib.hid (Q.out.on hw5)
          clear f0 f1 f2 a0 a1 a2 b0 b1 b2 hr0 hr1 hi0' hi1 hw5
          obtain ⟨x0, y0, z0, _, hr0, _⟩ := T.out.cells
          have kF := Lib.hid fun W => c_specl01Vec u0 u1 u2 W
          have hfe := Lib.hid (finP_is hnew.out)
          go_wp2_with (refine wpList_store_row rfl _ _ _ rfl _ _ _ rfl rfl hr0.out ?hi ?ho ?h1 T.out.ge T.out.st ?_; (case hi => kernel_rfl); (case ho => rfl); (case h1 => first | rfl | simp [Value.oneCell']); intro w6 hw6 hq6 hother hsame; have T6 := Lib.hid (T.out.set hw6 hq6 hother hnew.out); have Q6 := Lib.hid (Q.out.set hother); have a0 := cell_of_row _ _ 0 _ _ _ hq6; have a1 := cell_of_row _ _ 1 _ _ _ hq6; have a2 := cell_of_row _ _ 2 _ _ _ hq6; clear hw6 hq6 hother hsame)
          refine (kF.out _).mono ?_
          rintro e w7 ⟨v7, rfl, hv7, hw7⟩
          rw [show v7 = _ from hv7, hfe.out]
          clear hv7 T Q hr0 kF hfe a0 a1 a2
          have T := Lib.hid (T6.out.on hw7)
          have Q := Lib.hid (Q6.out.on hw7)
          clear T6 Q6 hw7 v7
          replace hnew := Lib.hid hnew.out
          cases hfin : finP (addP (atP hd ls i k) (stpP hd ls i)) with
          | false =>
            obtain ⟨hc4, hx4⟩ := hbad.out i k (by omega) hkN (by rw [atP_succ]; exact hfin)
            replace hc4 := Lib.hid hc4
            replace hx4 := Lib.hid hx4
            have hst := Lib.hid T.out.st
            clear hfin hnew
            go_wp2
            go_ret2
            rw [hc4.out, hx4.out]
            exact TDone.some (hst.out.trans (by (repeat (first | exact Stays.refl _ | (with_reducible refine Stays.drewN ?_ _) | (with_reducible refine Stays.alloc ?_ _) | (with_reducible refine Stays.drew ?_) | (refine Stays.trans ?_ ‹Stays _ _›))))) 4 _
          | true =>
            have F2 := Lib.hid (F.out.next (by rw [atP_succ]; exact hfin))
            obtain ⟨x0, y0, z0, ⟨a0, a1, a2⟩, hr0, hi0'⟩ := T.out.cells
            obtain ⟨css, hown, hin⟩ := T.out.gr.own
            have hrow := Lib.hid (rowP_is hi0'.out)
            replace hin := Lib.hid hin
            have hown0 := Lib.hid hown
            rw [← hnn.out] at hown
            replace hown := Lib.hid hown
            have hbase : w.heap.size ≤ w.heap.size := T.out.ge
            have hplt : w.heap.size < w7.heap.size := in_heap hr0.out
            have et : IntKind.i64.wrap ((k : Int) + 1) = (k : Int) + 1 := IntWalk.i64_in _ (by omega)
            clear hfin hnew hr0 hi0'
            go_wp2_with (at_builtin; go_loud (refine wpList_append_own_at _ rfl _ _ 94 rfl (w.heap.size + 1) 28 i0 (.agg #[.float .f32 0, .float .f32 0, .float .f32 0]) 3 12 Try.underlying94 hi0 hz0 hz1 hz2 rfl (by decide) _ _ _ rfl (hown.out.alloc _) ⟨w7.heap.size, 0, none⟩ 1 1 [.float .f32 x0, .float .f32 y0, .float .f32 z0] rfl rfl (World.news_of_block (heap_alloc_new w7 _)) (by simp [Value.oneCell']) (by unfold maxLen; omega) (by omega) (by simp; omega) ?_); intro v' w8 hown1 hgrow _ hob)
            have T8 := TkS.more T.out hown0.out (by rw [← hnn.out]; exact hown1) hin.out hrow.out hgrow
            have Q8 := Lib.hid (Q.out.more hgrow hob)
            obtain ⟨ao', cv', hv⟩ := T8.gr.form
            rw [List.length_append, ← hnn.out, List.length_cons, List.length_nil, Nat.zero_add] at hv
            subst hv
            replace T8 := Lib.hid T8
            clear hown1 hgrow hob a0 a1 a2 T Q hown hown0 hin hrow
            go_round
            case rel => exact ⟨k + 1, _, _, _, by omega, by go_num, rfl, Lib.hid (by rw [outK_succ, List.length_append, ← hnn.out]; rfl), by rw [outK_succ, atP_succ]; exact T8, Q8, F2⟩
            case measure => simp [intOf]; omega
        · have e : k = tkN ls i := by omega
          have hk' : ¬ (k : Int) < t := by have := hTN.out; omega
          have F2 := Lib.hid (F.out.leg (Nat.not_lt.1 hk))
          have T2 := Lib.hid (show TkS w w.heap.size (baseP hd ls (i + 1)) _ (outB hd ls (i + 1)) _ from by rw [outK_end, atP_end, ← e]; exact T.out)
          have hnn2 : Hid (nn = (outB hd ls (i + 1)).length) := by rw [outK_end, ← e]; exact hnn
          have et : IntKind.i64.wrap ((i : Int) + 1) = (i : Int) + 1 := IntWalk.i64_in _ (by omega)
          replace e := Lib.hid e
          have hsv2 := Lib.hid fun p (ep : Value.pointer (some ⟨q, 0, none⟩) = .pointer (some ⟨p, 0, none⟩)) => (show p < _ from by cases ep; obtain ⟨_, _, _, hrr, _⟩ := Q.out.row; exact in_heap hrr)
          clear T Q F
          go_wp2_with fail
          go_round
          case rel => exact ⟨i + 1, _, _, _, by omega, by go_num, rfl, hnn2, T2, F2, hsv2⟩
          case measure => simp [intOf]; omega
    · have e : i = ls.length := by omega
      subst e
      obtain ⟨hc0, hx0⟩ := hgood.out (F.out.all (Nat.le_refl _))
      replace hc0 := Lib.hid hc0
      replace hx0 := Lib.hid hx0
      go_wp2
      go_ret2
      rw [hc0.out, hx0.out]
      exact T0.out.done 0

set_option maxRecDepth 100000 in
set_option maxHeartbeats 4000000 in
theorem c_specTrackOf (v : Value) (hd : List NV) (bs ls : List (List NV)) (w : World) (h : MissionV w w.heap.size v hd bs ls) (hn : bs.length ≤ 1048576) (hm : ls.length ≤ 1048576) :
    Calls Try.prog 44 #[v] w (TDone w (trC hd bs ls) (trX hd bs ls)) := by
  obtain ⟨r, x, y, z, A, c, A', c', rfl, hh, h1, h2⟩ := h.val
  have hb : Stays w (w.alloc (.cells #[.int .i64 r, .float .f32 x, .float .f32 y, .float .f32 z, .slice A bs.length c, .slice A' ls.length c'] 99)) := by (repeat (first | exact Stays.refl _ | (with_reducible refine Stays.drewN ?_ _) | (with_reducible refine Stays.alloc ?_ _) | (with_reducible refine Stays.drew ?_) | (refine Stays.trans ?_ ‹Stays _ _›)))
  have hk0 := c_l08Ok w.heap.size r x y z A A' c c' hd bs ls (w.alloc (.cells #[.int .i64 r, .float .f32 x, .float .f32 y, .float .f32 z, .slice A bs.length c, .slice A' ls.length c'] 99)) hh ((h1.below hb).more hb.size) ((h2.below hb).more hb.size) (heap_alloc_new w _) hn hm
  have kT := fun hv W (hW : Stays (w.alloc (.cells #[.int .i64 r, .float .f32 x, .float .f32 y, .float .f32 z, .slice A bs.length c, .slice A' ls.length c'] 99)) W) => c_l08Track w.heap.size r x y z A A' c c' hd bs ls W hh ((h2.below (hb.trans hW)).more (hb.trans hW).size) ((Below.block hW _ (in_heap (heap_alloc_new w _))).trans (heap_alloc_new w _)) hv hm
  replace hb := Lib.hid hb
  clear h h1 h2 hh
  cases hf : missionB hd bs ls with
  | false =>
    obtain ⟨e1, e2⟩ := tr_bad hf
    rw [e1, e2]
    rw [hf] at hk0
    have hk := Lib.hid hk0
    clear hf hk0 kT e1 e2
    go_enter Try.func44, Try.ntmps44
    go_wp2_with fail
    refine hk.out.mono ?_
    rintro e w1 ⟨rfl, hw1⟩
    replace hb := Lib.hid (hb.out.trans hw1)
    clear hk hw1
    go_wp2
    go_ret2
    exact TDone.some (hb.out.trans (by (repeat (first | exact Stays.refl _ | (with_reducible refine Stays.drewN ?_ _) | (with_reducible refine Stays.alloc ?_ _) | (with_reducible refine Stays.drew ?_) | (refine Stays.trans ?_ ‹Stays _ _›))))) 1 _
  | true =>
    replace kT := Lib.hid (kT hf)
    rw [hf] at hk0
    have hk := Lib.hid hk0
    clear hf hk0
    generalize trC hd bs ls = code at kT ⊢
    generalize trX hd bs ls = XS at kT ⊢
    go_enter Try.func44, Try.ntmps44
    go_wp2_with fail
    refine hk.out.mono ?_
    rintro e w1 ⟨rfl, hw1⟩
    have kT1 := Lib.hid (kT.out w1 hw1)
    replace hb := Lib.hid (hb.out.trans hw1)
    clear hk hw1 kT
    go_wp2_with fail
    refine kT1.out.mono ?_
    rintro e w2 hd2
    obtain ⟨g, A2, c2, rfl, hb2, hg2, hL⟩ := hd2.under hb.out
    replace hb2 := Lib.hid hb2
    replace hL := Lib.hid hL
    replace hg2 := Lib.hid hg2
    clear hd2 kT1
    go_wp2
    go_ret2
    exact ⟨g, A2, c2, rfl, hb2.out, hg2.out, hL.out⟩

end Go.Proofs.Ytmcbeaihjdnelaa

namespace Go.Proofs.Ytmcbeaihjdnelaa
open Go Go.RowKit
set_option linter.unusedVariables false
set_option linter.unusedSimpArgs false


def frS (F G : FuncId) (M : Array Value) (o : Option Nat) (fr : Value) (f : FuncId) (args : Array Value) (v : Value) : Prop := (f = F → args = M → v = fr) ∧ (f = G → args = #[fr] → ∃ d, v = .float .f32 d ∧ FIs .f32 d o)
theorem frS_1 {F G : FuncId} (hne : F ≠ G) {M : Array Value} {o : Option Nat} {fr v : Value} : frS F G M o fr F M v ↔ v = fr :=
  ⟨fun h => h.1 rfl rfl, fun h => ⟨fun _ _ => h, fun e => absurd e hne⟩⟩
theorem frS_2 {F G : FuncId} (hne : F ≠ G) {M : Array Value} {o : Option Nat} {fr v : Value} : frS F G M o fr G #[fr] v ↔ ∃ d, v = .float .f32 d ∧ FIs .f32 d o :=
  ⟨fun h => h.2 rfl rfl, fun h => ⟨fun e => absurd e.symm hne, fun _ _ => h⟩⟩

theorem c_tickTime (r : Int) (x y z : Nat) (A : Option Addr) (n c : Nat) (w : World) :
    Calls Try.prog 101 #[.agg #[.int .i64 r, .float .f32 x, .float .f32 y, .float .f32 z, .slice A n c]] w fun e w' => ∃ v, e = .returned v ∧ (∃ d, v = .float .f32 d ∧ FIs .f32 d (fop .quo .f32 (can .f32 1065353216) (can .f32 (floatOfInt .f32 r)))) ∧ Stays w w' := by
  go_enter Try.func101, Try.ntmps101
  go_wp2_with ((with_reducible refine wpList_fop rfl _ _ _ _ _ rfl rfl _ _ _ rfl rfl ?_); intro r n hr)
  go_ret
  exact ⟨_, rfl, ⟨_, rfl, ‹_›⟩, by (repeat (first | exact Stays.refl _ | (with_reducible refine Stays.drewN ?_ _) | (with_reducible refine Stays.alloc ?_ _) | (with_reducible refine Stays.drew ?_) | (refine Stays.trans ?_ ‹Stays _ _›)))⟩

set_option maxRecDepth 100000 in
set_option maxHeartbeats 4000000 in
theorem c_implTrackOf (v : Value) (hd : List NV) (bs ls : List (List NV)) (w : World) (h : MissionV w w.heap.size v hd bs ls) (hn : bs.length ≤ 1048576) (hm : ls.length ≤ 1048576) :
    Calls Try.prog 46 #[v] w (TDone w (trC hd bs ls) (trX hd bs ls)) := by
  have hV := h
  obtain ⟨r, x, y, z, A, c, A', c', rfl, hh, h1, h2⟩ := h.val
  have H' := Lib.hid h2
  have hk0 : ∀ W, Stays w W → Calls Try.prog 99 #[.agg #[.int .i64 r, .float .f32 x, .float .f32 y, .float .f32 z, .slice A bs.length c, .slice A' ls.length c']] W fun e w' => e = .returned (.bool (missionB hd bs ls)) ∧ Stays W w' := fun W hb => c_implValidMission _ hd bs ls W (hV.on hb) hn hm
  have HB := Lib.hid fun W (hW : Stays (w.alloc (.cells #[.int .i64 r, .float .f32 x, .float .f32 y, .float .f32 z, .slice A bs.length c, .slice A' ls.length c'] 99)) W) => And.intro (row_of hW (heap_alloc_new w (.cells #[.int .i64 r, .float .f32 x, .float .f32 y, .float .f32 z, .slice A bs.length c, .slice A' ls.length c'] 99))) (Stays.trans (show Stays w (w.alloc (.cells #[.int .i64 r, .float .f32 x, .float .f32 y, .float .f32 z, .slice A bs.length c, .slice A' ls.length c'] 99)) from by (repeat (first | exact Stays.refl _ | (with_reducible refine Stays.drewN ?_ _) | (with_reducible refine Stays.alloc ?_ _) | (with_reducible refine Stays.drew ?_) | (refine Stays.trans ?_ ‹Stays _ _›)))) hW)
  have hsta := Lib.hid (start_is hh)
  have hr0 : Hid (hdR hd = r) := Lib.hid hh.r.symm
  obtain ⟨i0, hi0, hz0, hz1, hz2⟩ := info_parts infoVec
  clear h h1 h2 hh hV
  cases hf : missionB hd bs ls with
  | false =>
    obtain ⟨e1, e2⟩ := tr_bad hf
    rw [e1, e2]
    rw [hf] at hk0
    have hk := Lib.hid hk0
    clear hf hk0 e1 e2
    have hcw := (HB.out _ (Stays.refl _)).1
    go_enter Try.func46, Try.ntmps46
    go_wp2_with fail
    refine (hk.out _ (HB.out _ (Stays.refl _)).2).mono ?_
    rintro e w1 ⟨rfl, hw1⟩
    replace hw1 := Lib.hid (HB.out _ hw1).2
    clear hcw hk
    go_wp2
    go_ret2
    exact TDone.nil hw1.out 1
  | true =>
    obtain ⟨h64, hleg⟩ := leg_bd hf
    replace hleg := Lib.hid hleg
    have hbad := Lib.hid fun i k hi hk hg => tr_state (i := i) (k := k) hf hi hk hg
    have hgood := Lib.hid fun hA => tr_good hf hA
    rw [hf] at hk0
    have hk := Lib.hid hk0
    clear hf hk0
    have hcw := (HB.out _ (Stays.refl _)).1
    go_enter Try.func46, Try.ntmps46
    go_wp2_with fail
    refine (hk.out _ (HB.out _ (Stays.refl _)).2).mono ?_
    rintro e w1 ⟨rfl, hw1⟩
    replace hw1 := Lib.hid (show Stays (w.alloc (.cells #[.int .i64 r, .float .f32 x, .float .f32 y, .float .f32 z, .slice A bs.length c, .slice A' ls.length c'] 99)) w1 from hw1)
    clear hcw hk
    go_upto_region 3 with fail
    have hcells : ∀ W, Stays w1 W → _ := fun W hW => (HB.out W (hw1.out.trans hW)).1
    refine wp_region_soft_tail 6 (Stays.refl _) (frS 100 101 #[.agg #[.int .i64 r, .float .f32 x, .float .f32 y, .float .f32 z, .slice A bs.length c, .slice A' ls.length c']] (fop .quo .f32 (can .f32 1065353216) (can .f32 (floatOfInt .f32 r))) (.agg #[.int .i64 r, .float .f32 x, .float .f32 y, .float .f32 z, .slice A bs.length c])) [(4, #[.float .f32 0, .float .f32 0, .float .f32 0], 28)] (by kernel_rfl) (by kernel_rfl) (by simp [undef]) ?_
    simp only [List.take_succ_cons, List.take_zero, List.drop_succ_cons, List.drop_zero]
    repeat ((with_reducible apply soft_detG); (case hwa => rfl); (case hA => rfl); (case h => (intro w1 hw1; have hc := hcells w1 hw1; go_simp; exact rfl)); go_simp)
    refine soft_callX (A0 := #[.agg #[.int .i64 r, .float .f32 x, .float .f32 y, .float .f32 z, .slice A bs.length c, .slice A' ls.length c']]) (V := fun v => v = .agg #[.int .i64 r, .float .f32 x, .float .f32 y, .float .f32 z, .slice A bs.length c]) (by rfl) rfl ?h (fun w2 _ => (c_frameM r x y z A A' bs.length c ls.length c' w2).mono fun e w' he => ⟨_, he.1, rfl, he.2⟩) (fun v hv => (frS_1 (by decide)).2 hv) (fun v hv => (frS_1 (by decide)).1 hv) ?_
    case h => (intro w1 hw1; have hc := hcells w1 hw1; go_simp; try exact ⟨rfl, rfl⟩)
    rintro v rfl
    go_simp
    refine soft_callX (A0 := #[.agg #[.int .i64 r, .float .f32 x, .float .f32 y, .float .f32 z, .slice A bs.length c]]) (V := fun v => ∃ d, v = .float .f32 d ∧ FIs .f32 d (fop .quo .f32 (can .f32 1065353216) (can .f32 (floatOfInt .f32 r)))) (by rfl) rfl ?h (fun w2 _ => c_tickTime r x y z A bs.length c w2) (fun v hv => (frS_2 (by decide)).2 hv) (fun v hv => (frS_2 (by decide)).1 hv) ?_
    case h => (intro w1 hw1; have hc := hcells w1 hw1; go_simp; try exact ⟨rfl, rfl⟩)
    rintro v ⟨d, rfl, hdd⟩
    go_simp
    refine soft_alloc (cs := #[.float .f32 0, .float .f32 0, .float .f32 0]) (t := 28) rfl rfl ?hA ?h ?hK
    case hA => intro e he hd; simp at he; first | rw [he] | (rcases he with rfl | rfl <;> first | rfl | simp at hd)
    case h => intro w1 hw1; go_simp
    case hK =>
    intro PP hPP
    go_simp
    refine soft_nil ?_
    rintro w10 ⟨hw10, hk⟩
    have hk2 : w10.heap[PP]? = some (.cells #[.float .f32 0, .float .f32 0, .float .f32 0] 28 (0, 0)) := hk _ (List.mem_singleton.2 rfl) PP rfl
    clear hk
    refine wpList_store_row rfl _ _ _ rfl PP _ _ rfl rfl hk2 ?hi ?ho ?h1 hPP hw10 ?_
    case hi => kernel_rfl
    case ho => rfl
    case h1 => first | rfl | simp [Value.oneCell']
    intro w11 hw11 hq11 hoth hsam
    have hdt : Hid (FIs .f32 d (tickO hd)) := Lib.hid (hdd.of_eq (show _ = tickO hd from by unfold tickO; rw [hr0.out]))
    have hst1 := Lib.hid (HB.out w11 (hw1.out.trans hw11)).2
    have hge := Lib.hid (Nat.le_trans (HB.out w1 hw1.out).2.size hPP)
    have hsB := Lib.hid (hw1.out.trans hw11)
    have hp0 : w11.cell? ⟨PP, 0, none⟩ = some (.float .f32 x) := cell_of_row _ _ _ _ _ _ hq11
    have hp1 : w11.cell? ⟨PP, 1, none⟩ = some (.float .f32 y) := cell_of_row _ _ _ _ _ _ hq11
    have hp2 : w11.cell? ⟨PP, 2, none⟩ = some (.float .f32 z) := cell_of_row _ _ _ _ _ _ hq11
    have T0 := Lib.hid (TkS.first (w := w) (W := w11.alloc (.cells #[.float .f32 x, .float .f32 y, .float .f32 z] 28)) (p := PP) (q := w11.heap.size) (ps := nvP hd 1) (hst1.out.trans (by (repeat (first | exact Stays.refl _ | (with_reducible refine Stays.drewN ?_ _) | (with_reducible refine Stays.alloc ?_ _) | (with_reducible refine Stays.drew ?_) | (refine Stays.trans ?_ ‹Stays _ _›))))) hge.out (by exact ((Stays.refl w11).alloc _).heap (in_heap hq11) hq11) (heap_alloc_new w11 _) (in_heap hq11) hsta.out)
    have hbx := Lib.hid fun W (hW : Stays w W) => True.intro
    have hcb := (HB.out (w11.alloc (.cells #[.float .f32 x, .float .f32 y, .float .f32 z] 28)) (hsB.out.trans (by (repeat (first | exact Stays.refl _ | (with_reducible refine Stays.drewN ?_ _) | (with_reducible refine Stays.alloc ?_ _) | (with_reducible refine Stays.drew ?_) | (refine Stays.trans ?_ ‹Stays _ _›)))))).1
    clear hcells hw10 hk2 hoth hsam hw11 hq11 hPP hw1 hdd hbx
    go_wp2_with fail
    clear hp0 hp1 hp2 hcb hsB hst1 hge hsta
    generalize (w11.alloc (.cells #[.float .f32 x, .float .f32 y, .float .f32 z] 28)) = W0 at T0 ⊢
    go_loopw [6, 23] (fun v iv wr => ∃ (i : Nat) (ao : Option Addr) (nn cv : Nat), i ≤ ls.length ∧ iv = .int .i64 (i : Nat) ∧ v = .slice ao nn cv ∧ Hid (nn = (outB hd ls i).length) ∧ Hid (TkS w PP (baseP hd ls i) v (outB hd ls i) wr) ∧ Hid (FinTo hd ls i 0)) (fun _ iv _ => ls.length - (intOf iv).toNat)
    case atStart => exact ⟨0, _, _, _, Nat.zero_le _, rfl, rfl, Lib.hid rfl, T0, Lib.hid (FinTo.zero hd ls)⟩
    case round =>
      clear T0
      obtain ⟨i, ao, nn, cv, hin0, rfl, rfl, hnn, T0, F⟩ := hrel
      have hlen := outB_len (hd := hd) hleg.out i hin0
      by_cases hlt : i < ls.length
      · have hlt' : (i : Int) < (ls.length : Int) := by omega
        obtain ⟨ad, rfl, hbl, hrow⟩ := (H'.out.below (show Below w.heap.size w wr from T0.out.st)) i ls[i] (List.getElem?_eq_getElem hlt)
        have hgd : ls.getD i [] = ls[i] := by rw [List.getD_eq_getElem?_getD, List.getElem?_eq_getElem hlt]; rfl
        obtain ⟨hl1, hl2⟩ := hleg.out i hlt
        have hsp : Hid (stpP hd ls i = mulP (nvP (ls.getD i []) 1) (tickO hd)) := Lib.hid rfl
        have hkk : Hid (tkN ls i = (tk (ls.getD i [])).toNat) := Lib.hid rfl
        rw [hgd] at hl1 hl2 hsp hkk
        generalize ls[i] = rr at hrow hl1 hl2 hsp hkk
        clear hgd
        obtain ⟨c0, c1, c2, c3, c4, c5, hK, g0, g1, g2, g3, g4, g5⟩ := row6 rfl hrow
        obtain ⟨t, fx, b, x', y', z', ecs, ht, hfx, hb5, hsh⟩ := leg_cells hK
        cases ecs
        have hvel := Lib.hid (leg_is hsh)
        replace ht : tk rr = t := ht
        rw [ht] at hl1 hl2 hkk
        have hTN : ((tkN ls i : Nat) : Int) = t := by rw [hkk.out]; omega
        have hT4 : tkN ls i ≤ 400 := by omega
        replace hTN := Lib.hid hTN
        clear hkk hfx hb5 hsh hK hrow ht
        have hA1 : ∀ n, (ad.add n).block < w.heap.size := fun n => by rw [block_add]; exact hbl
        have G : Hid (∀ w', Stays w w' → w'.cell? (ad.add (i * 6)) = some (.int .i64 t) ∧ w'.cell? ⟨(ad.add (i * 6)).block, (ad.add (i * 6)).off + 1, none⟩ = some (.float .f32 x') ∧ w'.cell? ⟨(ad.add (i * 6)).block, (ad.add (i * 6)).off + 2, none⟩ = some (.float .f32 y') ∧ w'.cell? ⟨(ad.add (i * 6)).block, (ad.add (i * 6)).off + 3, none⟩ = some (.float .f32 z') ∧ w'.cell? ⟨(ad.add (i * 6)).block, (ad.add (i * 6)).off + 4, none⟩ = some (.int .i64 fx) ∧ w'.cell? ⟨(ad.add (i * 6)).block, (ad.add (i * 6)).off + 5, none⟩ = some (.int .i64 b)) := Lib.hid fun w' hs =>
          ⟨(Below.cell hs (hA1 _)).trans ((Below.cell T0.out.st (hA1 _)).symm.trans g0), (Below.cell (p := ⟨(ad.add (i * 6)).block, _, none⟩) hs (hA1 _)).trans ((Below.cell (p := ⟨(ad.add (i * 6)).block, _, none⟩) T0.out.st (hA1 _)).symm.trans g1), (Below.cell (p := ⟨(ad.add (i * 6)).block, _, none⟩) hs (hA1 _)).trans ((Below.cell (p := ⟨(ad.add (i * 6)).block, _, none⟩) T0.out.st (hA1 _)).symm.trans g2), (Below.cell (p := ⟨(ad.add (i * 6)).block, _, none⟩) hs (hA1 _)).trans ((Below.cell (p := ⟨(ad.add (i * 6)).block, _, none⟩) T0.out.st (hA1 _)).symm.trans g3), (Below.cell (p := ⟨(ad.add (i * 6)).block, _, none⟩) hs (hA1 _)).trans ((Below.cell (p := ⟨(ad.add (i * 6)).block, _, none⟩) T0.out.st (hA1 _)).symm.trans g4), (Below.cell (p := ⟨(ad.add (i * 6)).block, _, none⟩) hs (hA1 _)).trans ((Below.cell (p := ⟨(ad.add (i * 6)).block, _, none⟩) T0.out.st (hA1 _)).symm.trans g5)⟩
        clear g0 g1 g2 g3 g4 g5 hA1
        obtain ⟨g0, g1, g2, g3, g4, g5⟩ := G.out _ T0.out.st
        have hbx0 : (wr.alloc (.cells #[.int .i64 t, .float .f32 x', .float .f32 y', .float .f32 z', .int .i64 fx, .int .i64 b] 163)).cell? ⟨wr.heap.size, 1, none⟩ = some (.float .f32 x') := cell_of_row _ _ _ _ _ _ (heap_alloc_new wr (.cells #[.int .i64 t, .float .f32 x', .float .f32 y', .float .f32 z', .int .i64 fx, .int .i64 b] 163))
        have hbx1 : (wr.alloc (.cells #[.int .i64 t, .float .f32 x', .float .f32 y', .float .f32 z', .int .i64 fx, .int .i64 b] 163)).cell? ⟨wr.heap.size, 2, none⟩ = some (.float .f32 y') := cell_of_row _ _ _ _ _ _ (heap_alloc_new wr (.cells #[.int .i64 t, .float .f32 x', .float .f32 y', .float .f32 z', .int .i64 fx, .int .i64 b] 163))
        have hbx2 : (wr.alloc (.cells #[.int .i64 t, .float .f32 x', .float .f32 y', .float .f32 z', .int .i64 fx, .int .i64 b] 163)).cell? ⟨wr.heap.size, 3, none⟩ = some (.float .f32 z') := cell_of_row _ _ _ _ _ _ (heap_alloc_new wr (.cells #[.int .i64 t, .float .f32 x', .float .f32 y', .float .f32 z', .int .i64 fx, .int .i64 b] 163))
        have HL := Lib.hid fun W (hW : Stays (wr.alloc (.cells #[.int .i64 t, .float .f32 x', .float .f32 y', .float .f32 z', .int .i64 fx, .int .i64 b] 163)) W) => row_of hW (heap_alloc_new wr (.cells #[.int .i64 t, .float .f32 x', .float .f32 y', .float .f32 z', .int .i64 fx, .int .i64 b] 163)) 0
        have hsL : Hid (Stays wr (wr.alloc (.cells #[.int .i64 t, .float .f32 x', .float .f32 y', .float .f32 z', .int .i64 fx, .int .i64 b] 163))) := Lib.hid (by (repeat (first | exact Stays.refl _ | (with_reducible refine Stays.drewN ?_ _) | (with_reducible refine Stays.alloc ?_ _) | (with_reducible refine Stays.drew ?_) | (refine Stays.trans ?_ ‹Stays _ _›))))
        go_wp2_with fail
        refine (c_implScaleVec x' y' z' d _).mono ?_
        rintro e w5 ⟨v5, rfl, ⟨s0, s1, s2, rfl, f0, f1, f2⟩, hw5⟩
        have hstep := Lib.hid (mulP_is hvel.out hdt.out f0 f1 f2)
        rw [← hsp.out] at hstep
        have hs5 : Hid (Stays wr (w5.alloc (.cells #[.float .f32 s0, .float .f32 s1, .float .f32 s2] 28))) := Lib.hid (hsL.out.trans (hw5.trans (by (repeat (first | exact Stays.refl _ | (with_reducible refine Stays.drewN ?_ _) | (with_reducible refine Stays.alloc ?_ _) | (with_reducible refine Stays.drew ?_) | (refine Stays.trans ?_ ‹Stays _ _›))))))
        have T1 := Lib.hid (T0.out.on hs5.out)
        have hq5 : wr.heap.size ≤ w5.heap.size := (hsL.out.trans hw5).size
        have Q1 : Hid (TkQ PP w5.heap.size (stpP hd ls i) (.slice ao nn cv) (w5.alloc (.cells #[.float .f32 s0, .float .f32 s1, .float .f32 s2] 28))) := Lib.hid ⟨Nat.lt_of_lt_of_le (by obtain ⟨_, _, _, hrr, _⟩ := T0.out.row; exact in_heap hrr) hq5, T0.out.ownNe hq5, ⟨s0, s1, s2, heap_alloc_new w5 _, hstep.out⟩⟩
        have hl0 := HL.out (w5.alloc (.cells #[.float .f32 s0, .float .f32 s1, .float .f32 s2] 28)) (hw5.trans (by (repeat (first | exact Stays.refl _ | (with_reducible refine Stays.drewN ?_ _) | (with_reducible refine Stays.alloc ?_ _) | (with_reducible refine Stays.drew ?_) | (refine Stays.trans ?_ ‹Stays _ _›)))))
        clear f0 f1 f2 hbx0 hbx1 hbx2 g0 g1 g2 g3 g4 g5 hw5 HL hsL hs5 hq5
        go_wp2_with fail
        clear hl0
        generalize w5.heap.size = q at Q1 ⊢
        generalize (w5.alloc (.cells #[.float .f32 s0, .float .f32 s1, .float .f32 s2] 28)) = W1 at Q1 T1 ⊢
        go_loopw [6, 33] (fun v kv wr => ∃ (k : Nat) (ao : Option Addr) (nn cv : Nat), k ≤ tkN ls i ∧ kv = .int .i64 (k : Nat) ∧ v = .slice ao nn cv ∧ Hid (nn = (outK hd ls i k).length) ∧ Hid (TkS w PP (atP hd ls i k) v (outK hd ls i k) wr) ∧ Hid (TkQ PP q (stpP hd ls i) v wr) ∧ Hid (FinTo hd ls i k)) (fun _ kv _ => tkN ls i - (intOf kv).toNat)
        case atStart => exact ⟨0, _, _, _, Nat.zero_le _, rfl, rfl, by rw [outK_zero]; exact hnn, by rw [outK_zero]; exact T1, Q1, F⟩
        case round =>
          clear T1 Q1 hnn F T0
          obtain ⟨k, ao, nn, cv, hkle, rfl, rfl, hnn, T, Q, F⟩ := hrel
          have hlenk := outK_len (hd := hd) hleg.out i k hin0
          have hnn' : nn ≤ 1 + 400 * i + k := by rw [hnn.out]; exact hlenk
          by_cases hk : k < tkN ls i
          · have hk' : (k : Int) < t := by have := hTN.out; omega
            have hkN := hk
            obtain ⟨x0, y0, z0, ⟨a0, a1, a2⟩, hr0, hi0'⟩ := T.out.cells
            obtain ⟨x1, y1, z1, ⟨b0, b1, b2⟩, hr1, hi1⟩ := Q.out.cells
            go_wp2_with fail
            refine (c_implAddVec x0 y0 z0 x1 y1 z1 _).mono ?_
            rintro e w5 ⟨v5, rfl, ⟨u0, u1, u2, rfl, f0, f1, f2⟩, hw5⟩
            have hnew := Lib.hid (addP_is hi0'.out hi1.out f0 f1 f2)
            replace T := Lib.hid (T.out.on hw5)
            replace Q := Lib.hid (Q.out.on hw5)
            clear f0 f1 f2 a0 a1 a2 b0 b1 b2 hr0 hr1 hi0' hi1 hw5
            obtain ⟨x0, y0, z0, _, hr0, _⟩ := T.out.cells
            have kF := Lib.hid fun W => c_implIsFiniteVec u0 u1 u2 W
            have hfe := Lib.hid (finP_is hnew.out)
            go_wp2_with (refine wpList_store_row rfl _ _ _ rfl _ _ _ rfl rfl hr0.out ?hi ?ho ?h1 T.out.ge T.out.st ?_; (case hi => kernel_rfl); (case ho => rfl); (case h1 => first | rfl | simp [Value.oneCell']); intro w6 hw6 hq6 hother hsame; have T6 := Lib.hid (T.out.set hw6 hq6 hother hnew.out); have Q6 := Lib.hid (Q.out.set hother); have a0 := cell_of_row _ _ 0 _ _ _ hq6; have a1 := cell_of_row _ _ 1 _ _ _ hq6; have a2 := cell_of_row _ _ 2 _ _ _ hq6; clear hw6 hq6 hother hsame)
            refine (kF.out _).mono ?_
            rintro e w7 ⟨v7, rfl, hv7, hw7⟩
            rw [show v7 = _ from hv7, hfe.out]
            clear hv7 T Q hr0 kF hfe a0 a1 a2
            have T := Lib.hid (T6.out.on hw7)
            have Q := Lib.hid (Q6.out.on hw7)
            clear T6 Q6 hw7 v7
            replace hnew := Lib.hid hnew.out
            cases hfin : finP (addP (atP hd ls i k) (stpP hd ls i)) with
            | false =>
              obtain ⟨hc4, hx4⟩ := hbad.out i k (by omega) hkN (by rw [atP_succ]; exact hfin)
              replace hc4 := Lib.hid hc4
              replace hx4 := Lib.hid hx4
              have hst := Lib.hid T.out.st
              clear hfin hnew
              go_wp2
              go_ret2
              rw [hc4.out, hx4.out]
              exact TDone.nil hst.out 4
            | true =>
              have F2 := Lib.hid (F.out.next (by rw [atP_succ]; exact hfin))
              obtain ⟨x0, y0, z0, ⟨a0, a1, a2⟩, hr0, hi0'⟩ := T.out.cells
              obtain ⟨css, hown, hin⟩ := T.out.gr.own
              have hrow := Lib.hid (rowP_is hi0'.out)
              replace hin := Lib.hid hin
              have hown0 := Lib.hid hown
              rw [← hnn.out] at hown
              replace hown := Lib.hid hown
              have hbase : w.heap.size ≤ PP := T.out.ge
              have hplt : PP < w7.heap.size := in_heap hr0.out
              have et : IntKind.i64.wrap ((k : Int) + 1) = (k : Int) + 1 := IntWalk.i64_in _ (by omega)
              clear hfin hnew hr0 hi0'
              go_wp2_with (at_builtin; go_loud (refine wpList_append_own_at _ rfl _ _ 94 rfl (PP + 1) 28 i0 (.agg #[.float .f32 0, .float .f32 0, .float .f32 0]) 3 12 Try.underlying94 hi0 hz0 hz1 hz2 rfl (by decide) _ _ _ rfl (hown.out.alloc _) ⟨w7.heap.size, 0, none⟩ 1 1 [.float .f32 x0, .float .f32 y0, .float .f32 z0] rfl rfl (World.news_of_block (heap_alloc_new w7 _)) (by simp [Value.oneCell']) (by unfold maxLen; omega) (by omega) (by simp; omega) ?_); intro v' w8 hown1 hgrow _ hob)
              have T8 := TkS.more T.out hown0.out (by rw [← hnn.out]; exact hown1) hin.out hrow.out hgrow
              have Q8 := Lib.hid (Q.out.more hgrow hob)
              obtain ⟨ao', cv', hv⟩ := T8.gr.form
              rw [List.length_append, ← hnn.out, List.length_cons, List.length_nil, Nat.zero_add] at hv
              subst hv
              replace T8 := Lib.hid T8
              clear hown1 hgrow hob a0 a1 a2 T Q hown hown0 hin hrow
              go_round
              case rel => exact ⟨k + 1, _, _, _, by omega, by go_num, rfl, Lib.hid (by rw [outK_succ, List.length_append, ← hnn.out]; rfl), by rw [outK_succ, atP_succ]; exact T8, Q8, F2⟩
              case measure => simp [intOf]; omega
          · have e : k = tkN ls i := by omega
            have hk' : ¬ (k : Int) < t := by have := hTN.out; omega
            have F2 := Lib.hid (F.out.leg (Nat.not_lt.1 hk))
            have T2 := Lib.hid (show TkS w PP (baseP hd ls (i + 1)) _ (outB hd ls (i + 1)) _ from by rw [outK_end, atP_end, ← e]; exact T.out)
            have hnn2 : Hid (nn = (outB hd ls (i + 1)).length) := by rw [outK_end, ← e]; exact hnn
            have et : IntKind.i64.wrap ((i : Int) + 1) = (i : Int) + 1 := IntWalk.i64_in _ (by omega)
            replace e := Lib.hid e
            clear T Q F
            go_wp2_with fail
            go_round
            case rel => exact ⟨i + 1, _, _, _, by omega, by go_num, rfl, hnn2, T2, F2⟩
            case measure => simp [intOf]; omega
      · have e : i = ls.length := by omega
        subst e
        obtain ⟨hc0, hx0⟩ := hgood.out (F.out.all (Nat.le_refl _))
        replace hc0 := Lib.hid hc0
        replace hx0 := Lib.hid hx0
        go_wp2
        go_ret2
        rw [hc0.out, hx0.out]
        exact T0.out.done 0

end Go.Proofs.Ytmcbeaihjdnelaa

namespace Go.Proofs.Ytmcbeaihjdnelaa
open Go Go.RowKit
set_option linter.unusedVariables false
set_option linter.unusedSimpArgs false

section
variable {K : List Kd} {m : Nat} {w w' : World} {g c : Nat} {A : Option Addr} {v : Value} {xs : List (List NV)}
theorem ne_of_posL (h : 0 < xs.length) : xs ≠ [] := fun e => by rw [e] at h; simp at h
theorem LiesL_at (h : LiesL K m w g (.slice A xs.length c) xs) : 0 < xs.length → A = some ⟨g, 0, none⟩ := fun h0 => by
  obtain ⟨A', c', e, h⟩ := h
  cases e
  exact (h (ne_of_posL h0)).1
theorem LiesL_lt (h : LiesL K m w g v xs) : 0 < xs.length → g < w.heap.size := fun h0 => LiesR.lt h (ne_of_posL h0)
theorem LiesL_there (h : LiesL K m w g v xs) : w.there g 0 (xs.length * m) := by
  by_cases hx : xs = []
  · subst hx
    intro j hj
    simp at hj
  · obtain ⟨A, c, e, h⟩ := h
    exact (h hx).2.2.1
theorem LiesL_same (h : LiesL K m w g v xs) (hs : xs ≠ [] → Same w w' g) : LiesL K m w' g v xs := by
  by_cases hx : xs = []
  · subst hx
    obtain ⟨A, c, e, _⟩ := h
    exact ⟨A, c, e, fun h => absurd rfl h⟩
  · exact LiesR.on h fun _ => hs hx
end

/-- A mission that a call has made: its two lists in blocks of their own. -/
structure MisL (B : Nat) (w : World) (x y z g1 g2 : Nat) (hd : List NV) (bs ls : List (List NV)) : Prop where
  head : HdK (hdR hd) x y z hd
  ge1 : B ≤ g1
  ge2 : B ≤ g2
  lt12 : g1 < g2
  lt2 : g2 < w.heap.size
  l1 : LiesL KVec 3 w g1 (.slice (some ⟨g1, 0, none⟩) bs.length bs.length) bs
  l2 : LiesL KLeg 6 w g2 (.slice (some ⟨g2, 0, none⟩) ls.length ls.length) ls
theorem MisL.below {B : Nat} {w w' : World} {x y z g1 g2 : Nat} {hd : List NV} {bs ls : List (List NV)} (h : MisL B w x y z g1 g2 hd bs ls) (hb : Stays w w') : MisL B w' x y z g1 g2 hd bs ls :=
  ⟨h.head, h.ge1, h.ge2, h.lt12, Nat.lt_of_lt_of_le h.lt2 hb.size, LiesR.below h.l1 hb, LiesR.below h.l2 hb⟩
theorem MisL.val {B : Nat} {w : World} {x y z g1 g2 : Nat} {hd : List NV} {bs ls : List (List NV)} (h : MisL B w x y z g1 g2 hd bs ls) : MissionV w w.heap.size (.agg #[.int .i64 (hdR hd), .float .f32 x, .float .f32 y, .float .f32 z, .slice (some ⟨g1, 0, none⟩) bs.length bs.length, .slice (some ⟨g2, 0, none⟩) ls.length ls.length]) hd bs ls :=
  ⟨hdR hd, x, y, z, _, _, _, _, rfl, h.head, h.l1.rows, h.l2.rows⟩

set_option maxRecDepth 100000 in
set_option maxHeartbeats 1600000 in
theorem c_toMissionL (v : Value) (hd : List NV) (bs ls : List (List NV)) (w : World) (h : MissionV w w.heap.size v hd bs ls) (hn : bs.length ≤ 1048576) (hm : ls.length ≤ 1048576) :
    Calls Try.prog 45 #[v] w fun e w' => ∃ x1 y1 z1 g1 g2, e = .returned (.agg #[.int .i64 (hdR hd), .float .f32 x1, .float .f32 y1, .float .f32 z1, .slice (some ⟨g1, 0, none⟩) bs.length bs.length, .slice (some ⟨g2, 0, none⟩) ls.length ls.length]) ∧ Below w.heap.size w w' ∧ MisL w.heap.size w' x1 y1 z1 g1 g2 hd bs ls := by
  obtain ⟨r, x, y, z, A, c, A', c', rfl, hh, h1, h2⟩ := h.val
  have k0 := Lib.hid fun W => c_toVecG (.agg #[.float .f32 x, .float .f32 y, .float .f32 z]) (hd.drop 1) W hh.shm
  have k1 := Lib.hid fun W (hb : Below w.heap.size w W) => c_toVecS A c bs W ((h1.below hb).more hb.size) hn
  have k2 := Lib.hid fun W (hb : Below w.heap.size w W) => c_toLegS A' c' ls W ((h2.below hb).more hb.size) hm
  have hr := Lib.hid hh.r
  clear h1 h2 h hh
  have E := Lib.hid (show Bx w (((w.alloc (.cells #[.int .i64 r, .float .f32 x, .float .f32 y, .float .f32 z, .slice A bs.length c, .slice A' ls.length c'] 92)).alloc (.cells #[.int .i64 0, .float .f32 0, .float .f32 0, .float .f32 0, .slice none 0 0, .slice none 0 0] 99)).alloc (.cells #[.int .i64 r, .float .f32 0, .float .f32 0, .float .f32 0, .slice none 0 0, .slice none 0 0] 99)) #[.int .i64 r, .float .f32 x, .float .f32 y, .float .f32 z, .slice A bs.length c, .slice A' ls.length c'] #[.int .i64 0, .float .f32 0, .float .f32 0, .float .f32 0, .slice none 0 0, .slice none 0 0] #[.int .i64 r, .float .f32 0, .float .f32 0, .float .f32 0, .slice none 0 0, .slice none 0 0] 92 99 99 from ⟨by (repeat (first | (refine heap_top _ _ _ ?_; simp; done) | (with_reducible refine heap_drawn _ _ _ ?_) | (with_reducible refine heap_under _ _ _ ?_ ?_; (simp <;> omega)))), by (repeat (first | (refine heap_top _ _ _ ?_; simp; done) | (with_reducible refine heap_drawn _ _ _ ?_) | (with_reducible refine heap_under _ _ _ ?_ ?_; (simp <;> omega)))), by (repeat (first | (refine heap_top _ _ _ ?_; simp; done) | (with_reducible refine heap_drawn _ _ _ ?_) | (with_reducible refine heap_under _ _ _ ?_ ?_; (simp <;> omega)))), by simp, show Stays w _ from by (repeat (first | exact Stays.refl _ | (with_reducible refine Stays.drewN ?_ _) | (with_reducible refine Stays.alloc ?_ _) | (with_reducible refine Stays.drew ?_) | (refine Stays.trans ?_ ‹Stays _ _›)))⟩)
  go_enter Try.func45, Try.ntmps45
  go_wp2_with fail
  generalize (((w.alloc (.cells #[.int .i64 r, .float .f32 x, .float .f32 y, .float .f32 z, .slice A bs.length c, .slice A' ls.length c'] 92)).alloc (.cells #[.int .i64 0, .float .f32 0, .float .f32 0, .float .f32 0, .slice none 0 0, .slice none 0 0] 99)).alloc (.cells #[.int .i64 r, .float .f32 0, .float .f32 0, .float .f32 0, .slice none 0 0, .slice none 0 0] 99)) = W0 at E ⊢
  refine (k0.out _).mono ?_
  rintro e w1 ⟨cs, rfl, hcs, hp⟩
  replace E := Lib.hid (E.out.grow hp)
  clear hp
  obtain ⟨x1, y1, z1, ecs⟩ := vec_cells hcs
  have hh1 : Hid (HdK r x1 y1 z1 hd) := by rw [ecs] at hcs; exact Lib.hid ⟨hr.out, ⟨_, rfl, hcs⟩⟩
  obtain ⟨W2, hrun, E2⟩ := E.out.store hcs 1 (by rw [ecs]; simp)
  rw [ecs] at E2
  replace E2 := Lib.hid E2
  have hsz : cs.size = 3 := KMs_len hcs
  clear ecs
  have hc4 : W2.cell? ⟨w.heap.size, 4, none⟩ = some (.slice A bs.length c) := E2.out.cell0 4
  clear hcs E k0
  go_wp2_with fail
  clear hrun hc4
  refine (k1.out _ E2.out.below).mono ?_
  rintro e w3 ⟨rfl, hp⟩
  replace hp := Lib.hid hp
  have E3 := Lib.hid (E2.out.grow hp.out.below)
  generalize hg1 : W2.heap.size = g1 at hp ⊢
  have hL := hp.out.lies
  have hlt := hp.out.lt
  rw [hg1] at hL hlt
  have hge : Hid (w.heap.size + 3 ≤ g1) := Lib.hid (by have := E2.out.size; omega)
  clear hp hg1 E2
  have c0 : w3.cell? ⟨w.heap.size + 1 + 1, 4, none⟩ = some (.slice none 0 0) := E3.out.cell2 4
  have d0 : w3.frozen? ⟨w.heap.size + 1 + 1, 4, none⟩ = false := E3.out.froz2 4
  have E4 := Lib.hid (E3.out.set 4 (.slice (some ⟨g1, 0, none⟩) bs.length bs.length))
  have hc5 : (w3.setCell ⟨w.heap.size + 1 + 1, 4, none⟩ (.slice (some ⟨g1, 0, none⟩) bs.length bs.length)).cell? ⟨w.heap.size, 5, none⟩ = some (.slice A' ls.length c') := E4.out.cell0 5
  replace hL := Lib.hid (hL.on fun _ => same_sets (w.heap.size + 1 + 1) g1 4 [.slice (some ⟨g1, 0, none⟩) bs.length bs.length] w3 (by have := hge.out; omega))
  change Hid (LiesL KVec 3 (w3.setCell ⟨w.heap.size + 1 + 1, 4, none⟩ (.slice (some ⟨g1, 0, none⟩) bs.length bs.length)) g1 _ bs) at hL
  replace hlt := Lib.hid (show g1 < (w3.setCell ⟨w.heap.size + 1 + 1, 4, none⟩ (.slice (some ⟨g1, 0, none⟩) bs.length bs.length)).heap.size from by simp [World.setCell]; exact hlt)
  clear E3
  go_wp2_with fail
  clear c0 d0 hc5
  generalize (w3.setCell ⟨w.heap.size + 1 + 1, 4, none⟩ (.slice (some ⟨g1, 0, none⟩) bs.length bs.length)) = W4 at E4 hL hlt ⊢
  refine (k2.out _ E4.out.below).mono ?_
  rintro e w5 ⟨rfl, hp⟩
  replace hp := Lib.hid hp
  have E5 := Lib.hid (E4.out.grow hp.out.below)
  replace hL := Lib.hid (hL.out.below hp.out.below)
  generalize hg2 : W4.heap.size = g2 at hp ⊢
  have hL2 := hp.out.lies
  have hlt2 := hp.out.lt
  rw [hg2] at hL2 hlt2
  have hge2 : Hid (w.heap.size + 3 ≤ g2) := Lib.hid (by have := E4.out.size; omega)
  have hlt12 : Hid (g1 < g2) := Lib.hid (by rw [← hg2]; exact hlt.out)
  clear hp hg2 E4 hlt
  have c0 : w5.cell? ⟨w.heap.size + 1 + 1, 5, none⟩ = some (.slice none 0 0) := E5.out.cell2 5
  have d0 : w5.frozen? ⟨w.heap.size + 1 + 1, 5, none⟩ = false := E5.out.froz2 5
  have hlt2' : g2 < (w5.setCell ⟨w.heap.size + 1 + 1, 5, none⟩ (.slice (some ⟨g2, 0, none⟩) ls.length ls.length)).heap.size := by simp [World.setCell]; exact hlt2
  have E6 := E5.out.set 5 (.slice (some ⟨g2, 0, none⟩) ls.length ls.length)
  replace hL2 := Lib.hid (hL2.on fun _ => same_sets (w.heap.size + 1 + 1) g2 5 [.slice (some ⟨g2, 0, none⟩) ls.length ls.length] w5 (by have := hge2.out; omega))
  replace hL := Lib.hid (hL.out.on fun _ => same_sets (w.heap.size + 1 + 1) g1 5 [.slice (some ⟨g2, 0, none⟩) ls.length ls.length] w5 (by have := hge.out; omega))
  change Hid (LiesL KLeg 6 (w5.setCell ⟨w.heap.size + 1 + 1, 5, none⟩ (.slice (some ⟨g2, 0, none⟩) ls.length ls.length)) g2 _ ls) at hL2
  change Hid (LiesL KVec 3 (w5.setCell ⟨w.heap.size + 1 + 1, 5, none⟩ (.slice (some ⟨g2, 0, none⟩) ls.length ls.length)) g1 _ bs) at hL
  have hres := E6.h1
  have hst : Stays w (w5.setCell ⟨w.heap.size + 1 + 1, 5, none⟩ (.slice (some ⟨g2, 0, none⟩) ls.length ls.length)) := E6.below
  have f0 : (w5.setCell ⟨w.heap.size + 1 + 1, 5, none⟩ (.slice (some ⟨g2, 0, none⟩) ls.length ls.length)).cell? ⟨w.heap.size + 1 + 1, 0, none⟩ = some (.int .i64 r) := E6.cell2 0
  have f1 : (w5.setCell ⟨w.heap.size + 1 + 1, 5, none⟩ (.slice (some ⟨g2, 0, none⟩) ls.length ls.length)).cell? ⟨w.heap.size + 1 + 1, 1, none⟩ = some (.float .f32 x1) := E6.cell2 1
  have f2 : (w5.setCell ⟨w.heap.size + 1 + 1, 5, none⟩ (.slice (some ⟨g2, 0, none⟩) ls.length ls.length)).cell? ⟨w.heap.size + 1 + 1, 2, none⟩ = some (.float .f32 y1) := E6.cell2 2
  have f3 : (w5.setCell ⟨w.heap.size + 1 + 1, 5, none⟩ (.slice (some ⟨g2, 0, none⟩) ls.length ls.length)).cell? ⟨w.heap.size + 1 + 1, 3, none⟩ = some (.float .f32 z1) := E6.cell2 3
  have f4 : (w5.setCell ⟨w.heap.size + 1 + 1, 5, none⟩ (.slice (some ⟨g2, 0, none⟩) ls.length ls.length)).cell? ⟨w.heap.size + 1 + 1, 4, none⟩ = some (.slice (some ⟨g1, 0, none⟩) bs.length bs.length) := E6.cell2 4
  have f5 : (w5.setCell ⟨w.heap.size + 1 + 1, 5, none⟩ (.slice (some ⟨g2, 0, none⟩) ls.length ls.length)).cell? ⟨w.heap.size + 1 + 1, 5, none⟩ = some (.slice (some ⟨g2, 0, none⟩) ls.length ls.length) := E6.cell2 5
  clear E5 E6
  go_wp2_with (refine wpList_store_row rfl _ _ _ rfl _ _ _ rfl rfl hres ?hi ?ho ?h1 ?hB hst ?_; (case hi => kernel_rfl); (case ho => rfl); (case h1 => first | rfl | simp [Value.oneCell']); (case hB => first | omega | (simp <;> omega)); intro w2 hw2 hq2 hother hsame)
  go_wp2
  apply end_agg rfl rfl rfl Try.underlying99 rfl (t := 99)
  case hg => exact hq2
  case hi => kernel_rfl
  case hR =>
    have hp1 : g1 ≠ w.heap.size + 1 := by have := hge.out; omega
    have hp2 : g2 ≠ w.heap.size + 1 := by have := hge2.out; omega
    have er : r = hdR hd := hr.out
    refine ⟨x1, y1, z1, g1, g2, by rw [← er], hw2, ?_⟩
    have hsE : w2.heap.size = _ := hsame
    exact ⟨er ▸ hh1.out, by have := hge.out; omega, by have := hge2.out; omega, hlt12.out, by rw [hsE]; exact hlt2', hL.out.on fun h => same_block (hother g1 h hp1) (by omega), hL2.out.on fun h => same_block (hother g2 h hp2) (by omega)⟩

/-- A block that is written into, and nothing else. -/
structure Touch (w wr : World) (g n : Nat) : Prop where
  there : wr.there g 0 n
  same : ∀ g', g' ≠ g → Same w wr g'
  below : ∀ B, B ≤ g → Below B w wr
theorem Touch.refl {w : World} {g n : Nat} (h : w.there g 0 n) : Touch w w g n := ⟨h, fun g' _ => ⟨fun _ _ => rfl, fun _ _ => rfl, Nat.le_refl _⟩, fun B _ => Below.refl _ _⟩
theorem Touch.set {w wr : World} {g n : Nat} (h : Touch w wr g n) (o : Nat) (v : Value) : Touch w (wr.setCell ⟨g, o, none⟩ v) g n :=
  ⟨World.there_setCells h.there g o [v], fun g' hg => (h.same g' hg).trans (same_sets g g' o [v] wr hg), fun B hB => (h.below B hB).setCell hB _⟩
theorem Touch.free {w wr : World} {g n : Nat} (h : Touch w wr g n) (o : Nat) (ho : o < n) : ∃ u, wr.cell? ⟨g, o, none⟩ = some u ∧ wr.frozen? ⟨g, o, none⟩ = false := by
  have ht := (there_part h.there o 1 (by omega)) 0 (by omega)
  obtain ⟨u, hu⟩ := Option.isSome_iff_exists.1 ht.1
  exact ⟨u, hu, ht.2⟩

set_option maxRecDepth 100000 in
set_option maxHeartbeats 1000000 in
theorem c_markLegS (A : Option Addr) (g c n : Nat) (k0 : Int) (w : World) (hA : 0 < n → A = some ⟨g, 0, none⟩) (ht : w.there g 0 (n * 6)) (hn : n ≤ 1048576) (h0 : 0 ≤ k0 ∧ k0 ≤ 4000000) :
    Calls Try.prog 105 #[.slice A n c, .int .i64 k0] w fun e w' => e = .returned (.int .i64 (k0 + 6 * (n : Nat))) ∧ Touch w w' g (n * 6) := by
  have HT := Lib.hid ht
  have HA := Lib.hid hA
  clear ht hA
  go_enter Try.func105, Try.ntmps105
  go_wp2
  go_loopw [1, 5] (fun kv iv wr => ∃ i : Nat, i ≤ n ∧ iv = .int .i64 i ∧ kv = .int .i64 (k0 + 6 * (i : Nat)) ∧ Hid (Touch w wr g (n * 6))) (fun _ iv _ => n - (intOf iv).toNat)
  case atStart => exact ⟨0, Nat.zero_le _, rfl, by simp, Lib.hid (Touch.refl HT.out)⟩
  case round =>
    obtain ⟨i, hi, rfl, rfl, hm⟩ := hrel
    generalize wr = wo at hm ⊢
    by_cases hlt : i < n
    · have hlt' : (i : Int) < (n : Int) := by omega
      have hAe := HA.out (by omega)
      subst hAe
      have hb : 0 ≤ k0 + 6 * (i : Int) ∧ k0 + 6 * (i : Int) ≤ 10437284 := by omega
      generalize hK : k0 + 6 * (i : Int) = K at hb
      replace hK := Lib.hid hK
      obtain ⟨u0, hu0, hf0⟩ := hm.out.free (i * 6) (by omega)
      have hm1 := Lib.hid (hm.out.set (i * 6) (.int .i64 K))
      clear hm
      go_wp2
      clear hu0 hf0
      go_loopw [1, 6] (fun kv jv w2 => ∃ j : Nat, j ≤ 3 ∧ jv = .int .i64 j ∧ kv = .int .i64 (K + 1 + (j : Nat)) ∧ Hid (Touch w w2 g (n * 6))) (fun _ jv _ => 3 - (intOf jv).toNat)
      case atStart => exact ⟨0, by omega, rfl, by simp, hm1⟩
      case round =>
        clear hm1
        obtain ⟨j, hj, rfl, rfl, hm2⟩ := hrel
        by_cases hj3 : j < 3
        · have hj' : (j : Int) < 3 := by omega
          obtain ⟨u1, hu1, hf1⟩ := hm2.out.free (i * 6 + 1 + j) (by omega)
          go_wp2
          go_round
          case rel => exact ⟨j + 1, by omega, by go_num, by go_num, Lib.hid (hm2.out.set _ _)⟩
          case measure => simp [intOf]; omega
        · have e : j = 3 := by omega
          subst e
          obtain ⟨u4, hu4, hf4⟩ := hm2.out.free (i * 6 + 4) (by omega)
          obtain ⟨u5, hu5, hf5⟩ := hm2.out.free (i * 6 + 5) (by omega)
          go_wp2
          go_round
          case rel => exact ⟨i + 1, by omega, by go_num, by rw [← hK.out]; exact congrArg _ (by omega), Lib.hid ((hm2.out.set _ _).set _ _)⟩
          case measure => simp [intOf]; omega
    · have e : i = n := by omega
      subst e
      go_wp2
      go_ret
      exact ⟨rfl, hm.out⟩

structure Touch2 (w w' : World) (g1 g2 : Nat) : Prop where
  same : ∀ g', g' ≠ g1 → g' ≠ g2 → g' < w.heap.size → Same w w' g'
  below : ∀ B, B ≤ w.heap.size → B ≤ g1 → B ≤ g2 → Below B w w'

set_option maxRecDepth 100000 in
set_option maxHeartbeats 1000000 in
theorem c_markMission (B x y z g1 g2 : Nat) (hd : List NV) (bs ls : List (List NV)) (w : World) (h : MisL B w x y z g1 g2 hd bs ls) (hn : bs.length ≤ 1048576) (hm : ls.length ≤ 1048576) :
    Calls Try.prog 49 #[.agg #[.int .i64 (hdR hd), .float .f32 x, .float .f32 y, .float .f32 z, .slice (some ⟨g1, 0, none⟩) bs.length bs.length, .slice (some ⟨g2, 0, none⟩) ls.length ls.length], .int .i64 1] w fun e w' => e = .returned (.int .i64 (1 + 3 * (bs.length : Nat) + 6 * (ls.length : Nat))) ∧ Touch2 w w' g1 g2 := by
  have hst : Stays w (w.alloc (.cells #[.int .i64 (hdR hd), .float .f32 x, .float .f32 y, .float .f32 z, .slice (some ⟨g1, 0, none⟩) bs.length bs.length, .slice (some ⟨g2, 0, none⟩) ls.length ls.length] 99)) := by (repeat (first | exact Stays.refl _ | (with_reducible refine Stays.drewN ?_ _) | (with_reducible refine Stays.alloc ?_ _) | (with_reducible refine Stays.drew ?_) | (refine Stays.trans ?_ ‹Stays _ _›)))
  have HB := row_of (Stays.refl (w.alloc (.cells #[.int .i64 (hdR hd), .float .f32 x, .float .f32 y, .float .f32 z, .slice (some ⟨g1, 0, none⟩) bs.length bs.length, .slice (some ⟨g2, 0, none⟩) ls.length ls.length] 99))) (heap_alloc_new w _)
  have h1 := Lib.hid (h.below hst)
  have hlt := Lib.hid (And.intro h.lt12 h.lt2)
  have hs0 : Hid (∀ g', g' < w.heap.size → Same w (w.alloc (.cells #[.int .i64 (hdR hd), .float .f32 x, .float .f32 y, .float .f32 z, .slice (some ⟨g1, 0, none⟩) bs.length bs.length, .slice (some ⟨g2, 0, none⟩) ls.length ls.length] 99)) g') := Lib.hid fun g' hg => ⟨fun p hp => hst.cell (by omega), fun p hp => by unfold World.frozen?; rw [hst.block p.block (by omega)], hst.size⟩
  have hst' := Lib.hid hst
  have hrow := Lib.hid (heap_alloc_new w (.cells #[.int .i64 (hdR hd), .float .f32 x, .float .f32 y, .float .f32 z, .slice (some ⟨g1, 0, none⟩) bs.length bs.length, .slice (some ⟨g2, 0, none⟩) ls.length ls.length] 99))
  clear h hst
  have h1' : Hid (LiesL KVec 3 (w.alloc (.cells #[.int .i64 (hdR hd), .float .f32 x, .float .f32 y, .float .f32 z, .slice (some ⟨g1, 0, none⟩) bs.length bs.length, .slice (some ⟨g2, 0, none⟩) ls.length ls.length] 99)) g1 (.slice (some ⟨g1, 0, none⟩) bs.length bs.length) bs ∧ LiesL KLeg 6 (w.alloc (.cells #[.int .i64 (hdR hd), .float .f32 x, .float .f32 y, .float .f32 z, .slice (some ⟨g1, 0, none⟩) bs.length bs.length, .slice (some ⟨g2, 0, none⟩) ls.length ls.length] 99)) g2 (.slice (some ⟨g2, 0, none⟩) ls.length ls.length) ls) := Lib.hid ⟨h1.out.l1, h1.out.l2⟩
  clear h1
  have h1 := h1'
  clear h1'
  generalize hdR hd = r at *
  go_enter Try.func49, Try.ntmps49
  go_wp2_with fail
  generalize (w.alloc (.cells #[.int .i64 r, .float .f32 x, .float .f32 y, .float .f32 z, .slice (some ⟨g1, 0, none⟩) bs.length bs.length, .slice (some ⟨g2, 0, none⟩) ls.length ls.length] 99)) = W1 at h1 hs0 hst' hrow HB ⊢
  have ht1 := Lib.hid (LiesL_there h1.out.1)
  refine (c_markVecS (some ⟨g1, 0, none⟩) g1 bs.length bs.length 1 W1 (fun _ => rfl) (LiesL_there h1.out.1) hn (by omega)).mono ?_
  rintro e w2 ⟨rfl, hm1⟩
  have hne1 : w.heap.size ≠ g1 := by have := hlt.out; omega
  have hne2 : w.heap.size ≠ g2 := by have := hlt.out; omega
  have hne3 : g2 ≠ g1 := by have := hlt.out; omega
  have hc5 : w2.cell? ⟨w.heap.size, 5, none⟩ = some (.slice (some ⟨g2, 0, none⟩) ls.length ls.length) := by rw [(hm1.same w.heap.size hne1).cell _ rfl]; exact HB 5
  have hl2 := Lib.hid (LiesL_there (LiesL_same h1.out.2 fun _ => hm1.same g2 hne3))
  replace hm1 := Lib.hid hm1
  clear HB
  go_wp2_with fail
  refine (c_markLegS (some ⟨g2, 0, none⟩) g2 ls.length ls.length (1 + 3 * (bs.length : Nat)) w2 (fun _ => rfl) hl2.out hm (by omega)).mono ?_
  rintro e w3 ⟨rfl, hm2⟩
  replace hm2 := Lib.hid hm2
  clear hc5
  go_wp2
  go_ret
  refine ⟨rfl, fun g' h1' h2' hg => ((hs0.out g' hg).trans (hm1.out.same g' h1')).trans (hm2.out.same g' h2'), fun B hB hb1 hb2 => ?_⟩
  exact Below.trans (Below.mono (show Below w.heap.size w W1 from hst'.out) hB) (Below.trans (hm1.out.below B hb1) (hm2.out.below B hb2))

end Go.Proofs.Ytmcbeaihjdnelaa

namespace Go.Proofs.Ytmcbeaihjdnelaa
open Go Go.RowKit
set_option linter.unusedVariables false
set_option linter.unusedSimpArgs false


theorem rows_belowV {w w' : World} {g n : Nat} {k0 : Int} (h : ∀ j, j < n → w.rangeAt g (j * 3) (mrowVec (k0 + 3 * (j : Nat)))) (hb : Stays w w') : ∀ j, j < n → w'.rangeAt g (j * 3) (mrowVec (k0 + 3 * (j : Nat))) := fun j hj => by
  have hlt : g < w.heap.size := World.block_lt_of_cell? _ _ (h j hj 0 _ rfl)
  exact range_below (h j hj) hb hlt

set_option maxRecDepth 100000 in
set_option maxHeartbeats 4000000 in
theorem c_lawTrackOf (v : Value) (hd : List NV) (bs ls : List (List NV)) (w : World) (h : MissionV w w.heap.size v hd bs ls) (hn : bs.length ≤ 9223372036854775807) (hm : ls.length ≤ 9223372036854775807) :
    Calls Try.prog 10 #[v] w fun e w' => e = .returned (.bool true) ∧ Below w.heap.size w w' := by
  obtain ⟨r, x, y, z, A, c, A', c', rfl, HB⟩ := boxMission 92 h
  clear h
  replace HB := Lib.hid HB
  have hsz := fun W => c_szMission (.int .i64 r) (.float .f32 x) (.float .f32 y) (.float .f32 z) A A' c c' bs.length ls.length 1048576 W hn hm (by omega) (by omega)
  by_cases hl : (1048576 : Int) - bs.length - ls.length < 0
  · simp only [if_pos hl] at hsz
    replace hsz := Lib.hid hsz
    go_enter Try.func10, Try.ntmps10
    go_wp2_with fail
    refine (hsz.out _).mono ?_
    rintro e w1 ⟨rfl, hb⟩
    go_wp2
    go_ret
    exact ⟨rfl, (HB.out _ hb).2.1⟩
  · simp only [if_neg hl] at hsz
    have hn' : bs.length ≤ 1048576 := by omega
    have hm' : ls.length ≤ 1048576 := by omega
    have hX' : ¬ ((1048576 : Int) - bs.length - ls.length < 0) := hl
    generalize (1048576 : Int) - bs.length - ls.length = X at hX' hsz
    replace hsz := Lib.hid hsz
    have kS := fun v w h => c_specTrackOf v hd bs ls w h hn' hm'
    have kI := fun v w h => c_implTrackOf v hd bs ls w h hn' hm'
    have hX := Lib.hid (trX_len hd bs ls)
    generalize trX hd bs ls = XS at kS kI hX
    generalize trC hd bs ls = code at kS kI
    replace kS := Lib.hid kS
    replace kI := Lib.hid kI
    clear hl hn hm
    go_enter Try.func10, Try.ntmps10
    go_wp2_with fail
    refine (hsz.out _).mono ?_
    rintro e w1 ⟨rfl, hb⟩
    have ha := Lib.hid (show Stays _ w1 from hb)
    clear hb
    generalize (w.alloc (.cells #[.int .i64 r, .float .f32 x, .float .f32 y, .float .f32 z, .slice A bs.length c, .slice A' ls.length c'] 92)) = W0 at HB ha
    obtain ⟨q0, _, hg⟩ := HB.out _ ha.out
    replace hg := Lib.hid hg
    -- the document's side
    go_wp2_with fail
    refine (c_toMission _ hd bs ls w1 hg.out hn' hm').mono ?_
    rintro e w2 ⟨v1, rfl, hb, hv1⟩
    replace ha := Lib.hid (ha.out.trans hb)
    clear hb
    replace hv1 := Lib.hid hv1
    go_wp2_with fail
    refine (kS.out v1 w2 hv1.out).mono ?_
    rintro e w3 ⟨g0, A0, c0, rfl, hb, hge, hL0⟩
    replace ha := Lib.hid (ha.out.trans hb)
    replace hL0 := Lib.hid hL0
    have o1 : Hid (W0.heap.size ≤ w3.heap.size) := Lib.hid ha.out.size
    have o2 : Hid (0 < XS.length → g0 < w3.heap.size) := Lib.hid (LiesL_lt hL0.out)
    clear hb hv1 q0 hg hge
    -- the argument's copy
    obtain ⟨q0, _, hg⟩ := HB.out _ ha.out
    replace hg := Lib.hid hg
    go_wp2_with fail
    refine (c_toMissionL _ hd bs ls w3 hg.out hn' hm').mono ?_
    rintro e w4 ⟨x1, y1, z1, g1, g2, rfl, hb, hM1⟩
    replace ha := Lib.hid (ha.out.trans hb)
    replace hL0 := Lib.hid (LiesR.below hL0.out hb)
    have oC : Hid (w3.heap.size ≤ w4.heap.size) := Lib.hid hb.size
    have o6 : Hid (g1 < w4.heap.size ∧ g2 < w4.heap.size) := Lib.hid ⟨Nat.lt_trans hM1.lt12 hM1.lt2, hM1.lt2⟩
    clear hb q0 hg
    go_wp2_with fail
    have hb : Stays w4 (w4.alloc (.cells #[.int .i64 (hdR hd), .float .f32 x1, .float .f32 y1, .float .f32 z1, .slice (some ⟨g1, 0, none⟩) bs.length bs.length, .slice (some ⟨g2, 0, none⟩) ls.length ls.length] 99)) := by (repeat (first | exact Stays.refl _ | (with_reducible refine Stays.drewN ?_ _) | (with_reducible refine Stays.alloc ?_ _) | (with_reducible refine Stays.drew ?_) | (refine Stays.trans ?_ ‹Stays _ _›)))
    have HX := Lib.hid fun W (hW : Stays (w4.alloc (.cells #[.int .i64 (hdR hd), .float .f32 x1, .float .f32 y1, .float .f32 z1, .slice (some ⟨g1, 0, none⟩) bs.length bs.length, .slice (some ⟨g2, 0, none⟩) ls.length ls.length] 99)) W) => row_of hW (heap_alloc_new w4 (.cells #[.int .i64 (hdR hd), .float .f32 x1, .float .f32 y1, .float .f32 z1, .slice (some ⟨g1, 0, none⟩) bs.length bs.length, .slice (some ⟨g2, 0, none⟩) ls.length ls.length] 99))
    have hxs := Lib.hid (Stays.refl (w4.alloc (.cells #[.int .i64 (hdR hd), .float .f32 x1, .float .f32 y1, .float .f32 z1, .slice (some ⟨g1, 0, none⟩) bs.length bs.length, .slice (some ⟨g2, 0, none⟩) ls.length ls.length] 99)))
    have oB : Hid (w4.heap.size < (w4.alloc (.cells #[.int .i64 (hdR hd), .float .f32 x1, .float .f32 y1, .float .f32 z1, .slice (some ⟨g1, 0, none⟩) bs.length bs.length, .slice (some ⟨g2, 0, none⟩) ls.length ls.length] 99)).heap.size) := Lib.hid (by simp)
    replace ha := Lib.hid (ha.out.trans hb)
    replace hL0 := Lib.hid (LiesR.below hL0.out hb)
    replace hM1 := Lib.hid (hM1.below hb)
    clear hb
    generalize (w4.alloc (.cells #[.int .i64 (hdR hd), .float .f32 x1, .float .f32 y1, .float .f32 z1, .slice (some ⟨g1, 0, none⟩) bs.length bs.length, .slice (some ⟨g2, 0, none⟩) ls.length ls.length] 99)) = WX at *
    have x0 := HX.out WX hxs.out
    -- the program's side
    refine (kI.out _ WX hM1.out.val).mono ?_
    rintro e w5 ⟨gI, A1, c1, rfl, hb, hge, hL1⟩
    have o5 : Hid (w4.heap.size < gI) := Lib.hid (Nat.lt_of_lt_of_le oB.out hge)
    replace hL1 := Lib.hid hL1
    replace hM1 := Lib.hid (hM1.out.below hb)
    replace hL0 := Lib.hid (LiesR.below hL0.out hb)
    replace hxs := Lib.hid (hxs.out.trans hb)
    replace ha := Lib.hid (ha.out.trans hb)
    clear hb hge x0
    go_wp2_with fail
    refine (c_eqVecS _ _ _ _ XS w5 hL1.out.rows hL0.out.rows hX.out).mono ?_
    rintro e w6 ⟨rfl, hb⟩
    replace hb : Stays w5 w6 := hb
    replace ha := Lib.hid (ha.out.trans hb)
    replace hxs := Lib.hid (hxs.out.trans hb)
    replace hL0 := Lib.hid (LiesR.below hL0.out hb)
    replace hL1 := Lib.hid (LiesR.below hL1.out hb)
    replace hM1 := Lib.hid (hM1.out.below hb)
    clear hb
    -- the argument's copy is as it was
    have G : Hid (∀ w', Stays w6 w' → (∀ i, w'.cell? ⟨w.heap.size, i, none⟩ = (#[.int .i64 r, .float .f32 x, .float .f32 y, .float .f32 z, .slice A bs.length c, .slice A' ls.length c'] : Array Value)[i]?) ∧ (∀ i, w'.cell? ⟨w4.heap.size, i, none⟩ = (#[.int .i64 (hdR hd), .float .f32 x1, .float .f32 y1, .float .f32 z1, .slice (some ⟨g1, 0, none⟩) bs.length bs.length, .slice (some ⟨g2, 0, none⟩) ls.length ls.length] : Array Value)[i]?) ∧ Hid (Stays w6 w')) := Lib.hid fun w' h => ⟨(HB.out _ (ha.out.trans h)).1, HX.out _ (hxs.out.trans h), Lib.hid h⟩
    have h5 := Lib.hid (show Stays w6 w6.drew from (Stays.refl w6).drew)
    go_wp2_with fail
    go_region_held (fun w' => (∀ i, w'.cell? ⟨w.heap.size, i, none⟩ = (#[.int .i64 r, .float .f32 x, .float .f32 y, .float .f32 z, .slice A bs.length c, .slice A' ls.length c'] : Array Value)[i]?) ∧ (∀ i, w'.cell? ⟨w4.heap.size, i, none⟩ = (#[.int .i64 (hdR hd), .float .f32 x1, .float .f32 y1, .float .f32 z1, .slice (some ⟨g1, 0, none⟩) bs.length bs.length, .slice (some ⟨g2, 0, none⟩) ls.length ls.length] : Array Value)[i]?) ∧ Hid (Stays w6 w')) (first | exact G.out _ h5.out | exact G.out _ h6.out | exact G.out _ h7.out)
      (first
        | (go_at_call 45; refine (c_toMission _ hd bs ls _ (HB.out _ (ha.out.trans h5.out)).2.2 hn' hm').mono ?_; rintro e w7 ⟨v3, rfl, hb, hv3⟩; have h6 := Lib.hid (h5.out.trans hb); clear hb; replace hv3 := Lib.hid hv3)
        | (go_at_call 48; refine (c_eqMission _ v3 hd bs ls w7 (hM1.out.below h6.out).val hv3.out hn' hm').mono ?_; rintro e w8 ⟨rfl, hb⟩; have h7 := Lib.hid (h6.out.trans hb); clear hb))
    have hb := h7.out
    replace ha := Lib.hid (ha.out.trans hb)
    replace hxs := Lib.hid (hxs.out.trans hb)
    replace hL0 := Lib.hid (LiesR.below hL0.out hb)
    replace hL1 := Lib.hid (LiesR.below hL1.out hb)
    replace hM1 := Lib.hid (hM1.out.below hb)
    clear hb G h5 h6 h7 hv3
    have x0 := HX.out _ hxs.out
    have hge12 := Lib.hid (And.intro hM1.out.ge1 hM1.out.ge2)
    go_wp2_with fail
    refine (c_markMission _ x1 y1 z1 g1 g2 hd bs ls w8 hM1.out hn' hm').mono ?_
    rintro e w9 ⟨rfl, ht⟩
    replace ha := Lib.hid (show Stays W0 _ from Below.trans (show Below W0.heap.size W0 _ from ha.out) (ht.below W0.heap.size ha.out.size (by have := o1.out; have := hge12.out; omega) (by have := o1.out; have := hge12.out; omega)))
    replace hL0 := Lib.hid (LiesL_same hL0.out fun hx => ht.same g0 (by have := o2.out (List.length_pos_iff.2 hx); have := hge12.out; omega) (by have := o2.out (List.length_pos_iff.2 hx); have := hge12.out; omega) (LiesL_lt hL0.out (List.length_pos_iff.2 hx)))
    replace hL1 := Lib.hid (LiesL_same hL1.out fun hx => ht.same gI (by have := o5.out; have := o6.out; omega) (by have := o5.out; have := o6.out; omega) (LiesL_lt hL1.out (List.length_pos_iff.2 hx)))
    clear ht hM1 x0 hxs HX
    have hk0 : ¬ ((1 : Int) + 3 * (bs.length : Nat) + 6 * (ls.length : Nat) < 0) := by omega
    generalize (1 : Int) + 3 * (bs.length : Nat) + 6 * (ls.length : Nat) = kx at hk0 ⊢
    go_wp2_with fail
    refine (c_eqVecS _ _ _ _ XS w9 hL1.out.rows hL0.out.rows hX.out).mono ?_
    rintro e w10 ⟨rfl, hb⟩
    replace hb : Stays w9 w10 := hb
    replace ha := Lib.hid (ha.out.trans hb)
    replace hL0 := Lib.hid (LiesR.below hL0.out hb)
    replace hL1 := Lib.hid (LiesR.below hL1.out hb)
    clear hb
    go_wp2_with fail
    refine (c_markVecS A1 gI c1 XS.length 1 w10 (LiesL_at hL1.out) (LiesL_there hL1.out) hX.out (by omega)).mono ?_
    rintro e w11 ⟨rfl, hmk⟩
    have hA1 := Lib.hid (LiesL_at hL1.out)
    replace ha := Lib.hid (show Stays W0 _ from Below.trans (show Below W0.heap.size W0 _ from ha.out) (hmk.below W0.heap.size (by have := o1.out; have := oC.out; have := o5.out; omega)))
    replace hL0 := Lib.hid (LiesL_same hL0.out fun hx => hmk.same g0 (by have := o2.out (List.length_pos_iff.2 hx); have := oC.out; have := o5.out; omega))
    have hM := Lib.hid hmk.rows
    clear hmk hL1
    have hk : ¬ ((1 : Int) + 3 * (XS.length : Nat) < 0) := by omega
    go_wp2_with fail
    refine (c_heldVecS A1 gI c1 XS.length 1 w11 hA1.out hM.out hX.out (by omega)).mono ?_
    rintro e w12 ⟨rfl, rfl⟩
    generalize hkk : (1 : Int) + 3 * (XS.length : Nat) = kk at hk ⊢
    replace hkk := Lib.hid hkk
    obtain ⟨q0, _, hg⟩ := HB.out _ ha.out
    replace hg := Lib.hid hg
    go_wp2_with fail
    refine (c_toMission _ hd bs ls w11 hg.out hn' hm').mono ?_
    rintro e w13 ⟨v4, rfl, hb, hv4⟩
    replace ha := Lib.hid (ha.out.trans hb)
    replace hL0 := Lib.hid (LiesR.below hL0.out hb)
    replace hM := Lib.hid (rows_belowV hM.out hb)
    clear hb
    replace hv4 := Lib.hid hv4
    go_wp2_with fail
    refine (kI.out v4 w13 hv4.out).mono ?_
    rintro e w14 ⟨gJ, A2, c2, rfl, hb, hge, hL2⟩
    replace hL2 := Lib.hid hL2
    replace ha := Lib.hid (ha.out.trans hb)
    replace hL0 := Lib.hid (LiesR.below hL0.out hb)
    replace hM := Lib.hid (rows_belowV hM.out hb)
    clear hb hge hv4 q0 hg
    go_wp2_with fail
    refine (c_eqVecS _ _ _ _ XS w14 hL2.out.rows hL0.out.rows hX.out).mono ?_
    rintro e w15 ⟨rfl, hb⟩
    replace hb : Stays w14 w15 := hb
    replace ha := Lib.hid (ha.out.trans hb)
    replace hM := Lib.hid (rows_belowV hM.out hb)
    clear hb hL0 hL2
    go_wp2_with fail
    refine (c_heldVecS A1 gI c1 XS.length 1 w15 hA1.out hM.out hX.out (by omega)).mono ?_
    rintro e w16 ⟨rfl, rfl⟩
    rw [hkk.out]
    go_wp2
    go_ret
    exact ⟨rfl, (HB.out _ ha.out).2.1⟩

end Go.Proofs.Ytmcbeaihjdnelaa
