/- A region that draws its order, walked once in the order of the text, where operations may leave one of several values, make a block, or call what makes memory: what each may leave is a set that its operands alone settle; all worlds keep what there was. -/
import Derived.Still
import Derived.StillTail
import Derived.Deep.Quiet
import Derived.Test.YtcopccniijkceaaFw
import Derived.Test.YtcopccniijkceaaSp
namespace Go.Proofs.Ytcopccniijkceaa.K
open Go Go.RowKit Go.Proofs.Ytcopccniijkceaa
set_option linter.unusedVariables false

section
variable {P : Program} {ops : Array Oper} {md : Region.Mode} {W : World} {S : Option Tmp → Value → Prop} {A : List (Tmp × Array Value × TypeId)}

def oneOf (S : Value → Prop) (u : Value) : Result Next → Prop
  | .ok (.value x) _ => u = x
  | .ok .skip _ => u = undef
  | .ok (.enter f args) _ => S u
  | _ => False

def fine (P : Program) (S : Value → Prop) (w : World) : Result Next → Prop
  | .ok (.value _) w' => Stays w w'
  | .ok .skip w' => Stays w w'
  | .ok (.enter f args) w' => w' = w ∧ Calls P f args w (fun e w'' => ∃ v, e = .returned v ∧ S v ∧ Stays w w'')
  | _ => False

/-- What the operation may leave, on the way on which it is wanted and on the other. -/
def leaves (P : Program) (ops : Array Oper) (W : World) (S : Option Tmp → Value → Prop) (o : Oper) (a : Act) (u : Value) : Prop :=
  (Region.wanted o (yielded ops a.tmps) = true ∧ ∃ w, Stays W w ∧ oneOf (S o.dst) u ((execOp a.eval o).run P w)) ∨ (Region.wanted o (yielded ops a.tmps) = false ∧ u = undef)

def runs (P : Program) (ops : Array Oper) (W : World) (S : Option Tmp → Value → Prop) (o : Oper) (a : Act) : Prop :=
  Region.wanted o (yielded ops a.tmps) = true → ∀ w, Stays W w → fine P (S o.dst) w ((execOp a.eval o).run P w)

/-- An operation whose temporary is listed in A makes the block that stands there. -/
def makes (P : Program) (ops : Array Oper) (W : World) (A : List (Tmp × Array Value × TypeId)) (o : Oper) (a : Act) : Prop :=
  ∀ e ∈ A, o.dst = some e.1 → Region.wanted o (yielded ops a.tmps) = true ∧ ∀ w, Stays W w → (execOp a.eval o).run P w = .ok (.value (.pointer (some ⟨w.heap.size, 0, none⟩))) (w.alloc (.cells e.2.1 e.2.2))

/-- The world keeps what there was, and the blocks that the listed temporaries lead to. -/
def Keeps (W : World) (A : List (Tmp × Array Value × TypeId)) (a : Act) (w : World) : Prop :=
  Stays W w ∧ ∀ e ∈ A, ∀ p, a.tmps.getD e.1 undef = .pointer (some ⟨p, 0, none⟩) → w.heap[p]? = some (.cells e.2.1 e.2.2 (0, 0))

theorem Keeps.on {a : Act} {w w' : World} (h : Keeps W A a w) (hw : Stays w w') : Keeps W A a w' :=
  ⟨h.1.trans hw, fun e he p hp => by
    have hg := h.2 e he p hp
    have hlt : p < w.heap.size := (Array.getElem?_eq_some_iff.1 hg).1
    exact hw.heap hlt hg⟩

theorem put_getD_ne (a : Act) (d : Option Tmp) (v : Value) (t : Tmp) (h : d ≠ some t) : (a.put d v).tmps.getD t undef = a.tmps.getD t undef := by
  cases d with
  | none => rfl
  | some d =>
    have hne : d ≠ t := fun e => h (by rw [e])
    show (a.tmps.setIfInBounds d v).getD t undef = _
    simp [Array.getD_eq_getD_getElem?, hne]

theorem put_getD_same (a : Act) (v : Value) (t : Tmp) : (a.put (some t) v).tmps.getD t undef = v ∨ (a.put (some t) v).tmps.getD t undef = undef := by
  show (a.tmps.setIfInBounds t v).getD t undef = v ∨ (a.tmps.setIfInBounds t v).getD t undef = undef
  by_cases h : t < a.tmps.size
  · left; simp [Array.getD_eq_getD_getElem?, h]
  · right
    simp [Array.getD_eq_getD_getElem?, h]

theorem Keeps.put {a : Act} {w : World} {d : Option Tmp} {v : Value} (h : Keeps W A a w) (hd : ∀ e ∈ A, d ≠ some e.1) : Keeps W A (a.put d v) w :=
  ⟨h.1, fun e he p hp => h.2 e he p (by rwa [put_getD_ne a d v e.1 (hd e he)] at hp)⟩

/-- Behind the making of a block. (Of two entries with one temporary both are asked.) -/
theorem Keeps.made {a : Act} {w : World} {t : Tmp} {o : Obj} (h : Keeps W A a w) (ho : ∀ e ∈ A, t = e.1 → o = .cells e.2.1 e.2.2) :
    Keeps W A (a.put (some t) (.pointer (some ⟨w.heap.size, 0, none⟩))) (w.alloc o) :=
  ⟨h.1.alloc o, fun e he p hp => by
    by_cases ht : t = e.1
    · have ho' := ho e he ht
      subst ht
      rcases put_getD_same a (.pointer (some ⟨w.heap.size, 0, none⟩)) e.1 with hx | hx
      · rw [hx] at hp
        simp at hp
        rw [← hp, ho']
        exact heap_top w _ _ rfl
      · rw [hx] at hp; cases hp
    · have hp' : a.tmps.getD e.1 undef = .pointer (some ⟨p, 0, none⟩) := by rwa [put_getD_ne a (some t) _ e.1 (fun e' => ht (Option.some.inj e'))] at hp
      have hg := h.2 e he p hp'
      exact heap_under w o p (Array.getElem?_eq_some_iff.1 hg).1 hg⟩

structure Soft (P : Program) (ops : Array Oper) (W : World) (S : Option Tmp → Value → Prop) (A : List (Tmp × Array Value × TypeId)) (o : Oper) (K : Act → Prop) (a : Act) : Prop where
  ok : runs P ops W S o a
  makes : makes P ops W A o a
  some : ∃ u, leaves P ops W S o a u
  next : ∀ u, leaves P ops W S o a u → K (a.put o.dst u)

def wpSoft (P : Program) (ops : Array Oper) (W : World) (S : Option Tmp → Value → Prop) (A : List (Tmp × Array Value × TypeId)) (Q : Act → Prop) : List Oper → Act → Prop
  | [], a => Q a
  | o :: rest, a => Soft P ops W S A o (wpSoft P ops W S A Q rest) a

def softAt (P : Program) (ops : Array Oper) (W : World) (S : Option Tmp → Value → Prop) (A : List (Tmp × Array Value × TypeId)) (i : Nat) (K : Act → Prop) (a : Act) : Prop :=
  match ops[i]? with
  | none => K a
  | some o => Soft P ops W S A o K a

theorem Soft.mono {o : Oper} {K K' : Act → Prop} {a : Act} (hK : ∀ a, K a → K' a) (h : Soft P ops W S A o K a) : Soft P ops W S A o K' a :=
  ⟨h.ok, h.makes, h.some, fun u hu => hK _ (h.next u hu)⟩

theorem soft_to_wp {o : Oper} {a : Act} {K : Act → Prop} {K' : Act → World → Prop} {Q' : Exit → Act → World → Prop} {w : World} (hw : Keeps W A a w) (hK : ∀ a w', Keeps W A a w' → K a → K' a w')
    (hwa : Region.wanted o (yielded ops a.tmps) = true) (h : Soft P ops W S A o K a) : o.wp P a w K' Q' := by
  have h2 : ∀ u, oneOf (S o.dst) u ((execOp a.eval o).run P w) → K (a.put o.dst u) := fun u hu => h.next u (Or.inl ⟨hwa, w, hw.1, hu⟩)
  by_cases hA : ∃ e ∈ A, o.dst = some e.1
  · obtain ⟨e, he, hd⟩ := hA
    obtain ⟨_, hm⟩ := h.makes e he hd
    have hr := hm w hw.1
    unfold Oper.wp
    rw [hr] at h2 ⊢
    refine hK _ _ ?_ (h2 _ rfl)
    rw [hd]
    refine hw.made fun e' he' ht => ?_
    obtain ⟨_, hm'⟩ := h.makes e' he' (by rw [hd, ht])
    have := hm' w hw.1
    rw [hr] at this
    simp only [Result.ok.injEq, true_and] at this
    have h3 := congrArg (fun x : World => x.heap[w.heap.size]?) this
    simp only [heap_top w _ _ rfl] at h3
    exact Option.some.inj h3
  · have hd : ∀ e ∈ A, o.dst ≠ some e.1 := fun e he hd => hA ⟨e, he, hd⟩
    have h1 := h.ok hwa w hw.1
    unfold Oper.wp
    revert h1 h2
    generalize (execOp a.eval o).run P w = r
    intro h2 h1
    match r, h1, h2 with
    | .ok (.value x) w', h1, h2 => exact hK _ _ ((hw.on h1).put hd) (h2 x rfl)
    | .ok .skip w', h1, h2 => exact hK _ _ ((hw.on h1).put hd) (h2 undef rfl)
    | .ok (.enter f args) w', ⟨e, hc⟩, h2 =>
      subst e
      exact hc.mono fun e w'' ⟨v, he, hv, hw''⟩ => by subst he; exact hK _ _ ((hw.on hw'').put hd) (h2 v hv)

theorem softAt_to_wp {i : Nat} {a : Act} {K : Act → Prop} {K' : Act → World → Prop} {Q' : Exit → Act → World → Prop} {w : World} (hw : Keeps W A a w) (hK : ∀ a w', Keeps W A a w' → K a → K' a w')
    (h : softAt P ops W S A i K a) : wpOp P ops Q' i K' a w := by
  unfold softAt at h
  unfold wpOp
  cases ho : ops[i]? with
  | none => rw [ho] at h; exact hK _ _ hw h
  | some o =>
    rw [ho] at h
    simp only
    split
    · rename_i hwa
      exact Or.inl (soft_to_wp hw hK hwa h)
    · rename_i hwa
      have hd : ∀ e ∈ A, o.dst ≠ some e.1 := fun e he hd => hwa (h.makes e he hd).1
      exact hK _ _ (hw.put hd) (h.next undef (Or.inr ⟨by simpa using hwa, rfl⟩))

theorem leaves_put {oi : Oper} (a : Act) (d : Option Tmp) (v u : Value)
    (he : execOp (a.put d v).eval oi = execOp a.eval oi) (hwa : Region.wanted oi (yielded ops (a.put d v).tmps) = Region.wanted oi (yielded ops a.tmps)) :
    leaves P ops W S oi (a.put d v) u ↔ leaves P ops W S oi a u := by
  unfold leaves
  rw [he, hwa]

theorem runs_put {oi : Oper} (a : Act) (d : Option Tmp) (v : Value)
    (he : execOp (a.put d v).eval oi = execOp a.eval oi) (hwa : Region.wanted oi (yielded ops (a.put d v).tmps) = Region.wanted oi (yielded ops a.tmps)) :
    runs P ops W S oi (a.put d v) ↔ runs P ops W S oi a := by
  unfold runs
  rw [he, hwa]

theorem makes_put {oi : Oper} (a : Act) (d : Option Tmp) (v : Value)
    (he : execOp (a.put d v).eval oi = execOp a.eval oi) (hwa : Region.wanted oi (yielded ops (a.put d v).tmps) = Region.wanted oi (yielded ops a.tmps)) :
    makes P ops W A oi (a.put d v) ↔ makes P ops W A oi a := by
  unfold makes
  rw [he, hwa]

/-- The first n operations in whatever order; then L. -/
def headSoft (P : Program) (md : Region.Mode) (ops : Array Oper) (W : World) (S : Option Tmp → Value → Prop) (A : List (Tmp × Array Value × TypeId)) (n : Nat) (L : Array Bool → Act → Prop) : Nat → Array Bool → Act → Prop
  | 0, listed, a => L listed a
  | f + 1, listed, a => Region.ready md ops listed ≠ [] ∧ ∀ i ∈ Region.ready md ops listed, i < n ∧ softAt P ops W S A i (headSoft P md ops W S A n L f (listed.setIfInBounds i true)) a

theorem headSoft_to_wp {n g : Nat} {L : Array Bool → Act → Prop} {Q' : Exit → Act → World → Prop} (hL : ∀ listed a w, Keeps W A a w → L listed a → wpAny P md ops Q' g listed a w) :
    ∀ (f : Nat) (listed : Array Bool) (a : Act) (w : World), Keeps W A a w → headSoft P md ops W S A n L f listed a → wpAny P md ops Q' (f + g) listed a w
  | 0, listed, a, w, hw, h => by rw [Nat.zero_add]; exact hL _ _ _ hw h
  | f + 1, listed, a, w, hw, h => by
    rw [show f + 1 + g = (f + g) + 1 by omega]
    exact ⟨fun h0 => absurd h0 h.1, fun i hi => softAt_to_wp hw (fun a' w' hw' h' => headSoft_to_wp hL f _ a' w' hw' h') (h.2 i hi).2⟩

theorem headSoft_first {n i : Nat} {oi : Oper} {L : Array Bool → Act → Prop} (hi : ops[i]? = some oi) (hsel : ∀ (j : Nat) (o : Oper) cs b, ops[j]? = some o → o.op ≠ .select cs b)
    (hs : Region.sinkB md ops n = true) (hc : Region.chainB md ops n = true) (hn : n < ops.size) (hin : i < n)
    (hdone : ∀ listed a, L listed a → ∀ j ∈ Region.ready md ops listed, n ≤ j) :
    ∀ (f : Nat) (listed : Array Bool) (a : Act), HeadInv md ops n listed →
      (∀ j oj, ops[j]? = some oj → j ≠ i → listed.getD j true = false → (∀ e ∈ oj.after, Region.binds md e = true → e.on ≠ i) → oi.apart ops oj = true) →
      i ∈ Region.ready md ops listed →
      Soft P ops W S A oi (fun a' => headSoft P md ops W S A n L f (listed.setIfInBounds i true) a') a → headSoft P md ops W S A n L (f + 1) listed a := by
  intro f
  induction f with
  | zero =>
    intro listed a inv _ hr H
    have hun := (mem_ready.1 hr).1
    refine ⟨fun e => (by rw [e] at hr; cases hr), fun j hj => ?_⟩
    have hjn : j < n := by
      rcases Nat.lt_or_ge j n with h | h
      · exact h
      · exact absurd hj (tail_waits hs hc hn inv _ i rfl hin hun j h)
    refine ⟨hjn, ?_⟩
    by_cases hji : j = i
    · subst hji
      unfold softAt
      rw [hi]
      exact H
    · obtain ⟨v, hv⟩ := H.some
      have := hdone _ _ (H.next v hv) j (ready_mono hj hji)
      omega
  | succ f ih =>
    intro listed a inv hfree hr H
    have hun := (mem_ready.1 hr).1
    refine ⟨fun e => (by rw [e] at hr; cases hr), fun j hj => ?_⟩
    have hjn : j < n := by
      rcases Nat.lt_or_ge j n with h | h
      · exact h
      · exact absurd hj (tail_waits hs hc hn inv _ i rfl hin hun j h)
    refine ⟨hjn, ?_⟩
    by_cases hji : j = i
    · subst hji
      unfold softAt
      rw [hi]
      exact H
    · obtain ⟨hjun, oj, hoj, hall⟩ := mem_ready.1 hj
      have hnot : ∀ e ∈ oj.after, Region.binds md e = true → e.on ≠ i := fun e he hb heq => by
        have h1 := hall e he hb
        rw [heq, getD_both hun] at h1
        cases h1
      have hap := hfree j oj hoj hji hjun hnot
      obtain ⟨a1, a2, a3⟩ := Oper.apart_spec hap
      have hsi := fun cs b => hsel i oi cs b hi
      have hsj := fun cs b => hsel j oj cs b hoj
      have ei : ∀ (b : Act) (u : Value), execOp (b.put oj.dst u).eval oi = execOp b.eval oi := fun b u => execOp_put oi hsi b oj.dst u a3
      have wi : ∀ (b : Act) (u : Value), Region.wanted oi (yielded ops (b.put oj.dst u).tmps) = Region.wanted oi (yielded ops b.tmps) := fun b u => wanted_put oi b oj.dst u a3
      have ej : ∀ (b : Act) (v : Value), execOp (b.put oi.dst v).eval oj = execOp b.eval oj := fun b v => execOp_put oj hsj b oi.dst v a1
      have wj : ∀ (b : Act) (v : Value), Region.wanted oj (yielded ops (b.put oi.dst v).tmps) = Region.wanted oj (yielded ops b.tmps) := fun b v => wanted_put oj b oi.dst v a1
      have hnext : ∀ v, leaves P ops W S oi a v → Soft P ops W S A oj (headSoft P md ops W S A n L f ((listed.setIfInBounds i true).setIfInBounds j true)) (a.put oi.dst v) := fun v hv => by
        have h1 := ((H.next v hv).2 j (ready_mono hj hji)).2
        unfold softAt at h1
        rw [hoj] at h1
        exact h1
      obtain ⟨v0, hv0⟩ := H.some
      have hs0 := hnext v0 hv0
      have hfree' : ∀ k ok, ops[k]? = some ok → k ≠ i → (listed.setIfInBounds j true).getD k true = false →
          (∀ e ∈ ok.after, Region.binds md e = true → e.on ≠ i) → oi.apart ops ok = true := fun k ok hk hki hun' hno => by
        refine hfree k ok hk hki ?_ hno
        by_cases hjk : j = k
        · subst hjk; exact hjun
        · rw [getD_set_ne true hjk] at hun'; exact hun'
      unfold softAt
      rw [hoj]
      simp only
      refine ⟨(runs_put a oi.dst v0 (ej a v0) (wj a v0)).1 hs0.ok, (makes_put a oi.dst v0 (ej a v0) (wj a v0)).1 hs0.makes, ?_, fun u hu => ?_⟩
      · obtain ⟨u, hu⟩ := hs0.some
        exact ⟨u, (leaves_put a oi.dst v0 u (ej a v0) (wj a v0)).1 hu⟩
      · refine ih (listed.setIfInBounds j true) (a.put oj.dst u) (inv.set hj hjn) hfree' (ready_mono hr (Ne.symm hji)) ⟨?_, ?_, ⟨v0, ?_⟩, fun v hv => ?_⟩
        · exact (runs_put a oj.dst u (ei a u) (wi a u)).2 H.ok
        · exact (makes_put a oj.dst u (ei a u) (wi a u)).2 H.makes
        · exact (leaves_put a oj.dst u v0 (ei a u) (wi a u)).2 hv0
        · have hv' := (leaves_put a oj.dst u v (ei a u) (wi a u)).1 hv
          have h3 := (hnext v hv').next u ((leaves_put a oi.dst v u (ej a v) (wj a v)).2 hu)
          rw [Act.put_comm a v u a2, Array.setIfInBounds_comm _ _ (Ne.symm hji)] at h3
          exact h3

theorem headSoft_lex {n g : Nat} {Lq : Act → Prop} (hsel : Region.noSelect ops = true) (hs : Region.sinkB md ops n = true) (hc : Region.chainB md ops n = true) (hn : n < ops.size) :
    ∀ (l : List Oper) (k : Nat) (listed : Array Bool) (a : Act), (∀ j, j < l.length → l[j]? = ops[k + j]?) → k + l.length = n → HeadInv md ops n listed →
    Region.lexHead md ops g l.length k listed = true → wpSoft P ops W S A Lq l a →
    headSoft P md ops W S A n (fun listed' a' => Region.seqB md ops g n listed' = true ∧ Lq a') l.length listed a
  | [], k, listed, a, _, hk, _, hB, h => by
    have : k = n := by simpa using hk
    subst this
    exact ⟨by simpa [Region.lexHead] using hB, h⟩
  | o :: l, k, listed, a, hl, hk, inv, hB, h => by
    have h0 : ops[k]? = some o := by simpa using (hl 0 (by simp)).symm
    simp only [List.length_cons, Region.lexHead, Bool.and_eq_true] at hB
    obtain ⟨⟨hr, hf⟩, hB'⟩ := hB
    have hkn : k < n := by simp only [List.length_cons] at hk; omega
    have hr' : k ∈ Region.ready md ops listed := by simpa using hr
    refine headSoft_first h0 (Region.noSelect_spec hsel) hs hc hn hkn (fun listed' a' hL => seqB_ready hL.1) l.length listed a inv (Region.free_spec h0 hf) hr' ?_
    exact Soft.mono (fun a' h' => headSoft_lex hsel hs hc hn l (k + 1) _ a' (fun j hj => by have := hl (j + 1) (by simp; omega); simpa [Nat.add_assoc, Nat.add_comm 1 j] using this) (by simp only [List.length_cons] at hk; omega) (inv.set hr' hkn) hB' h') h

/-- The first n operations softly, the others in turn. -/
theorem wp_region_soft_tail {W : World} {id : Nat} {Q : Exit → Act → World → Prop} {a : Act} {w : World} {l : List Oper} (n : Nat) (hW : Stays W w) (S : Option Tmp → Value → Prop) (A : List (Tmp × Array Value × TypeId))
    (hm : P.follows .mixedOrders = true) (hB : Region.lexTailB .any l.toArray n = true) (hA : ∀ e ∈ A, ∀ p, a.tmps.getD e.1 undef ≠ .pointer p)
    (h : wpSoft P l.toArray W S A (fun a' => ∀ w', Keeps W A a' w' → wpList P l.toArray Q (l.drop n) a' w') (l.take n) a) : (Code.region id l.toArray true).wp P Q a w := by
  simp only [Region.lexTailB, Bool.and_eq_true, decide_eq_true_eq] at hB
  obtain ⟨⟨⟨⟨hsel, hn⟩, hs⟩, hc⟩, hlex⟩ := hB
  have hn' : n < l.length := by simpa using hn
  have htl : (l.take n).length = n := by simp; omega
  have hdl : (l.drop n).length = l.toArray.size - n := by simp
  have inv0 : HeadInv .any l.toArray n (Array.replicate l.toArray.size false) :=
    ⟨by simp, fun j oj _ hl => (by rw [getD_replicate_false] at hl; cases hl), fun t _ ht => getD_in (by simpa using ht) (getD_replicate_false _ _)⟩
  have H := headSoft_lex (W := W) (S := S) (A := A) (md := .any) (g := l.toArray.size - n) hsel hs hc hn (l.take n) 0 _ a (fun j hj => by
    have hj' : j < n := by rw [htl] at hj; exact hj
    simp [hj']) (by simpa using htl) inv0 (by rw [htl]; exact hlex) h
  refine wp_region_any hm ?_
  have := headSoft_to_wp (W := W) (S := S) (A := A) (Q' := Q) (g := l.toArray.size - n) (fun listed a' w' hw' hL => by
    have := wpAny_of_seq (md := .any) (Q' := Q) (l.drop n) n listed a' w' (fun j => by simp [List.getElem?_drop]) (by rw [hdl]; exact hL.1) (hL.2 w' hw')
    rwa [hdl] at this) _ _ _ _ ⟨hW.drewN 1, fun e he p hp => absurd hp (hA e he _)⟩ H
  rw [htl, show n + (l.toArray.size - n) = l.toArray.size by omega] at this
  exact this

theorem soft_nil {Q : Act → Prop} {a : Act} (h : Q a) : wpSoft P ops W S A Q [] a := h

theorem not_listed {o : Oper} (hA : (A.all fun e => o.dst != some e.1) = true) (a : Act) : makes P ops W A o a := fun e he hd => by
  have := List.all_eq_true.1 hA e he
  rw [hd] at this
  simp at this

/-- An operation that leaves one value and the world alone. -/
theorem soft_det {Q : Act → Prop} {a : Act} {o : Oper} {rest : List Oper} {v : Value} (hg : o.guard = none) (hA : (A.all fun e => o.dst != some e.1) = true)
    (h : ∀ w, Stays W w → (execOp a.eval o).run P w = .ok (.value v) w) (hK : wpSoft P ops W S A Q rest (a.put o.dst v)) : wpSoft P ops W S A Q (o :: rest) a := by
  have hwa : Region.wanted o (yielded ops a.tmps) = true := by simp [Region.wanted, hg]
  refine ⟨fun _ w hw => ?_, not_listed hA a, ⟨v, Or.inl ⟨hwa, W, Stays.refl W, ?_⟩⟩, fun u hu => ?_⟩
  · rw [h w hw]; exact Stays.refl w
  · rw [h W (Stays.refl W)]; rfl
  · rcases hu with ⟨_, w, hw, hu⟩ | ⟨hn, _⟩
    · rw [h w hw] at hu
      cases hu
      exact hK
    · rw [hwa] at hn; cases hn

/-- An operation that leaves a value of a set, and draws. -/
theorem soft_any {Q : Act → Prop} {a : Act} {o : Oper} {rest : List Oper} (V : Value → Prop) (hg : o.guard = none) (hA : (A.all fun e => o.dst != some e.1) = true)
    (h : ∀ w, Stays W w → ∃ v w', (execOp a.eval o).run P w = .ok (.value v) w' ∧ V v ∧ Stays w w') (hK : ∀ v, V v → wpSoft P ops W S A Q rest (a.put o.dst v)) : wpSoft P ops W S A Q (o :: rest) a := by
  have hwa : Region.wanted o (yielded ops a.tmps) = true := by simp [Region.wanted, hg]
  refine ⟨fun _ w hw => ?_, not_listed hA a, ?_, fun u hu => ?_⟩
  · obtain ⟨v, w', e, _, hst⟩ := h w hw
    rw [e]; exact hst
  · obtain ⟨v, w', e, _, _⟩ := h W (Stays.refl W)
    exact ⟨v, Or.inl ⟨hwa, W, Stays.refl W, by rw [e]; rfl⟩⟩
  · rcases hu with ⟨_, w, hw, hu⟩ | ⟨hn, _⟩
    · obtain ⟨v, w', e, hv, _⟩ := h w hw
      rw [e] at hu
      cases hu
      exact hK _ hv
    · rw [hwa] at hn; cases hn

/-- A call. -/
theorem soft_call {Q : Act → Prop} {a : Act} {o : Oper} {rest : List Oper} {f : FuncId} {args : Array Value} (hg : o.guard = none) (hA : (A.all fun e => o.dst != some e.1) = true)
    (h : ∀ w, Stays W w → (execOp a.eval o).run P w = .ok (.enter f args) w)
    (hc : ∀ w, Stays W w → Calls P f args w (fun e w' => ∃ v, e = .returned v ∧ S o.dst v ∧ Stays w w'))
    (hK : ∀ v, S o.dst v → wpSoft P ops W S A Q rest (a.put o.dst v)) : wpSoft P ops W S A Q (o :: rest) a := by
  have hwa : Region.wanted o (yielded ops a.tmps) = true := by simp [Region.wanted, hg]
  refine ⟨fun _ w hw => ?_, not_listed hA a, ?_, fun u hu => ?_⟩
  · rw [h w hw]
    exact ⟨rfl, hc w hw⟩
  · obtain ⟨_, _, _, ⟨v, _, hv, _⟩, _⟩ := hc W (Stays.refl W) []
    exact ⟨v, Or.inl ⟨hwa, W, Stays.refl W, by rw [h W (Stays.refl W)]; exact hv⟩⟩
  · rcases hu with ⟨_, w, hw, hu⟩ | ⟨hn, _⟩
    · rw [h w hw] at hu
      exact hK _ hu
    · rw [hwa] at hn; cases hn

/-- The making of a block that is listed (alone with its temporary). -/
theorem soft_alloc {Q : Act → Prop} {a : Act} {o : Oper} {rest : List Oper} {d : Tmp} {cs : Array Value} {t : TypeId} (hg : o.guard = none) (hd : o.dst = some d)
    (hA : ∀ e ∈ A, d = e.1 → e.2 = (cs, t))
    (h : ∀ w, Stays W w → (execOp a.eval o).run P w = .ok (.value (.pointer (some ⟨w.heap.size, 0, none⟩))) (w.alloc (.cells cs t)))
    (hK : ∀ p, W.heap.size ≤ p → wpSoft P ops W S A Q rest (a.put (some d) (.pointer (some ⟨p, 0, none⟩)))) : wpSoft P ops W S A Q (o :: rest) a := by
  have hwa : Region.wanted o (yielded ops a.tmps) = true := by simp [Region.wanted, hg]
  refine ⟨fun _ w hw => ?_, fun e he hd' => ⟨hwa, fun w hw => ?_⟩, ?_, fun u hu => ?_⟩
  · rw [h w hw]; exact (Stays.refl w).alloc _
  · rw [h w hw]
    have : d = e.1 := by rw [hd] at hd'; exact Option.some.inj hd'
    rw [hA e he this]
  · exact ⟨_, Or.inl ⟨hwa, W, Stays.refl W, by rw [h W (Stays.refl W)]; rfl⟩⟩
  · rcases hu with ⟨_, w, hw, hu⟩ | ⟨hn, _⟩
    · rw [h w hw] at hu
      cases hu
      rw [hd]
      exact hK _ hw.size
    · rw [hwa] at hn; cases hn

theorem row_of {W w1 : World} (h : Stays W w1) {b : Nat} {cs : Array Value} {t : TypeId} (hb : W.heap[b]? = some (.cells cs t (0, 0))) : ∀ i, w1.cell? ⟨b, i, none⟩ = cs[i]? :=
  fun i => cell_of_row w1 b i _ _ _ (h.heap (Array.getElem?_eq_some_iff.1 hb).1 hb)
theorem in_heap {w : World} {b : Nat} {o : Obj} (hb : w.heap[b]? = some o) : b < w.heap.size := (Array.getElem?_eq_some_iff.1 hb).1
end

end Go.Proofs.Ytcopccniijkceaa.K
