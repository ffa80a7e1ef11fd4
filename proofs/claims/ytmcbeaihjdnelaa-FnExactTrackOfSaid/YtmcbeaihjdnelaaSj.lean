/- A region that draws its order, walked softly, in a round of a loop: where a slot that is written holds the last round's pointer. -/
import Derived.Test.YtmcbeaihjdnelaaSo
namespace Go.Proofs.Ytmcbeaihjdnelaa
open Go Go.RowKit
set_option linter.unusedVariables false

section
variable {P : Program} {ops : Array Oper} {md : Region.Mode} {W : World} {S : FuncId → Array Value → Value → Prop} {A : List (Tmp × Array Value × TypeId)}

/-- The world keeps what there was, and the blocks that the listed temporaries lead to. -/
def Keep2 (W : World) (A : List (Tmp × Array Value × TypeId)) (a : Act) (w : World) : Prop :=
  Stays W w ∧ ∀ e ∈ A, ∀ p, W.heap.size ≤ p → a.tmps.getD e.1 undef = .pointer (some ⟨p, 0, none⟩) → w.heap[p]? = some (.cells e.2.1 e.2.2 (0, 0))

theorem Keep2.on {a : Act} {w w' : World} (h : Keep2 W A a w) (hw : Stays w w') : Keep2 W A a w' :=
  ⟨h.1.trans hw, fun e he p hge hp => by
    have hg := h.2 e he p hge hp
    have hlt : p < w.heap.size := (Array.getElem?_eq_some_iff.1 hg).1
    exact hw.heap hlt hg⟩

theorem Keep2.put {a : Act} {w : World} {d : Option Tmp} {v : Value} (h : Keep2 W A a w) (hd : ∀ e ∈ A, d ≠ some e.1) : Keep2 W A (a.put d v) w :=
  ⟨h.1, fun e he p hge hp => h.2 e he p hge (by rwa [put_getD_ne a d v e.1 (hd e he)] at hp)⟩

/-- Behind the making of a block. (Of two entries with one temporary both are asked.) -/
theorem Keep2.made {a : Act} {w : World} {t : Tmp} {o : Obj} (h : Keep2 W A a w) (ho : ∀ e ∈ A, t = e.1 → o = .cells e.2.1 e.2.2) :
    Keep2 W A (a.put (some t) (.pointer (some ⟨w.heap.size, 0, none⟩))) (w.alloc o) :=
  ⟨h.1.alloc o, fun e he p hge hp => by
    by_cases ht : t = e.1
    · have ho' := ho e he ht
      subst ht
      rcases put_getD_same a (.pointer (some ⟨w.heap.size, 0, none⟩)) e.1 with hx | hx
      · rw [hx] at hp
        simp at hp
        rw [← hp, ho']
        exact heap_top w _ _ rfl
      · rw [hx] at hp; cases hp
    · have hp' : a.tmps.getD e.1 undef = .pointer (some ⟨p, 0, none⟩) := by rwa [put_getD_ne a (some t) _ e.1 (fun e' => ht (Option.some.inj e'))] at hp
      have hg := h.2 e he p hge hp'
      exact heap_under w o p (Array.getElem?_eq_some_iff.1 hg).1 hg⟩

theorem soft2_to_wp {o : Oper} {a : Act} {K : Act → Prop} {K' : Act → World → Prop} {Q' : Exit → Act → World → Prop} {w : World} (hw : Keep2 W A a w) (hK : ∀ a w', Keep2 W A a w' → K a → K' a w')
    (hwa : Region.wanted o (yielded ops a.tmps) = true) (h : Soft P ops W S A o K a) : o.wp P a w K' Q' := by
  have h2 : ∀ u, oneOf S u ((execOp a.eval o).run P w) → K (a.put o.dst u) := fun u hu => h.next u (Or.inl ⟨hwa, w, hw.1, hu⟩)
  by_cases hA : ∃ e ∈ A, o.dst = some e.1
  · obtain ⟨e, he, hd⟩ := hA
    obtain ⟨_, hm⟩ := h.makes e he hd
    have hr := hm w hw.1
    unfold Oper.wp
    rw [hr] at h2 ⊢
    refine hK _ _ ?_ (h2 _ rfl)
    rw [hd]
    refine hw.made fun e' he' ht => ?_
    obtain ⟨_, hm'⟩ := h.makes e' he' (by rw [hd, ht])
    have := hm' w hw.1
    rw [hr] at this
    simp only [Result.ok.injEq, true_and] at this
    have h3 := congrArg (fun x : World => x.heap[w.heap.size]?) this
    simp only [heap_top w _ _ rfl] at h3
    exact Option.some.inj h3
  · have hd : ∀ e ∈ A, o.dst ≠ some e.1 := fun e he hd => hA ⟨e, he, hd⟩
    have h1 := h.ok hwa w hw.1
    unfold Oper.wp
    revert h1 h2
    generalize (execOp a.eval o).run P w = r
    intro h2 h1
    match r, h1, h2 with
    | .ok (.value x) w', h1, h2 => exact hK _ _ ((hw.on h1).put hd) (h2 x rfl)
    | .ok .skip w', h1, h2 => exact hK _ _ ((hw.on h1).put hd) (h2 undef rfl)
    | .ok (.enter f args) w', ⟨e, hc⟩, h2 =>
      subst e
      exact hc.mono fun e w'' ⟨v, he, hv, hw''⟩ => by subst he; exact hK _ _ ((hw.on hw'').put hd) (h2 v hv)

theorem softAt2_to_wp {i : Nat} {a : Act} {K : Act → Prop} {K' : Act → World → Prop} {Q' : Exit → Act → World → Prop} {w : World} (hw : Keep2 W A a w) (hK : ∀ a w', Keep2 W A a w' → K a → K' a w')
    (h : softAt P ops W S A i K a) : wpOp P ops Q' i K' a w := by
  unfold softAt at h
  unfold wpOp
  cases ho : ops[i]? with
  | none => rw [ho] at h; exact hK _ _ hw h
  | some o =>
    rw [ho] at h
    simp only
    split
    · rename_i hwa
      exact Or.inl (soft2_to_wp hw hK hwa h)
    · rename_i hwa
      have hd : ∀ e ∈ A, o.dst ≠ some e.1 := fun e he hd => hwa (h.makes e he hd).1
      exact hK _ _ (hw.put hd) (h.next undef (Or.inr ⟨by simpa using hwa, rfl⟩))

theorem headSoft2_to_wp {n g : Nat} {L : Array Bool → Act → Prop} {Q' : Exit → Act → World → Prop} (hL : ∀ listed a w, Keep2 W A a w → L listed a → wpAny P md ops Q' g listed a w) :
    ∀ (f : Nat) (listed : Array Bool) (a : Act) (w : World), Keep2 W A a w → headSoft P md ops W S A n L f listed a → wpAny P md ops Q' (f + g) listed a w
  | 0, listed, a, w, hw, h => by rw [Nat.zero_add]; exact hL _ _ _ hw h
  | f + 1, listed, a, w, hw, h => by
    rw [show f + 1 + g = (f + g) + 1 by omega]
    exact ⟨fun h0 => absurd h0 h.1, fun i hi => softAt2_to_wp hw (fun a' w' hw' h' => headSoft2_to_wp hL f _ a' w' hw' h') (h.2 i hi).2⟩

/-- The first n operations softly, the others in turn. -/
theorem wp_region_soft_tail2 {W : World} {id : Nat} {Q : Exit → Act → World → Prop} {a : Act} {w : World} {l : List Oper} (n : Nat) (hW : Stays W w) (S : FuncId → Array Value → Value → Prop) (A : List (Tmp × Array Value × TypeId))
    (hm : P.follows .mixedOrders = true) (hB : Region.lexTailB .any l.toArray n = true) (hA : ∀ e ∈ A, ∀ p, a.tmps.getD e.1 undef = .pointer (some ⟨p, 0, none⟩) → p < W.heap.size)
    (h : wpSoft P l.toArray W S A (fun a' => ∀ w', Keep2 W A a' w' → wpList P l.toArray Q (l.drop n) a' w') (l.take n) a) : (Code.region id l.toArray true).wp P Q a w := by
  simp only [Region.lexTailB, Bool.and_eq_true, decide_eq_true_eq] at hB
  obtain ⟨⟨⟨⟨hsel, hn⟩, hs⟩, hc⟩, hlex⟩ := hB
  have hn' : n < l.length := by simpa using hn
  have htl : (l.take n).length = n := by simp; omega
  have hdl : (l.drop n).length = l.toArray.size - n := by simp
  have inv0 : HeadInv .any l.toArray n (Array.replicate l.toArray.size false) :=
    ⟨by simp, fun j oj _ hl => (by rw [getD_replicate_false] at hl; cases hl), fun t _ ht => getD_in (by simpa using ht) (getD_replicate_false _ _)⟩
  have H := headSoft_lex (W := W) (S := S) (A := A) (md := .any) (g := l.toArray.size - n) hsel hs hc hn (l.take n) 0 _ a (fun j hj => by
    have hj' : j < n := by rw [htl] at hj; exact hj
    simp [hj']) (by simpa using htl) inv0 (by rw [htl]; exact hlex) h
  refine wp_region_any hm ?_
  have := headSoft2_to_wp (W := W) (S := S) (A := A) (Q' := Q) (g := l.toArray.size - n) (fun listed a' w' hw' hL => by
    have := wpAny_of_seq (md := .any) (Q' := Q) (l.drop n) n listed a' w' (fun j => by simp [List.getElem?_drop]) (by rw [hdl]; exact hL.1) (hL.2 w' hw')
    rwa [hdl] at this) _ _ _ _ ⟨hW.drewN 1, fun e he p hge hp => absurd (hA e he p hp) (Nat.not_lt.2 hge)⟩ H
  rw [htl, show n + (l.toArray.size - n) = l.toArray.size by omega] at this
  exact this
end

end Go.Proofs.Ytmcbeaihjdnelaa
