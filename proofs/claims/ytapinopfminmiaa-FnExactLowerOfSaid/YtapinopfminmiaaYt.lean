/- Checks of walks with many nodes: nodes are looked up in a tree. No condition. -/
import Derived.Test.YtapinopfminmiaaOe
import Derived.Test.YtapinopfminmiaaYc
namespace Go.Proofs.Ytapinopfminmiaa
open Go Go.RowKit
set_option linter.unusedVariables false
set_option linter.unusedSimpArgs false

inductive BT where
  | nil
  | node (d : Df) (k p : Nat) (l r : BT)

noncomputable def BT.insP (d : Df) (k p : Nat) : BT → BT
  | .nil => .node d k p .nil .nil
  | .node d' k' p' l r => match Nat.blt k k' with
    | true => .node d' k' p' (BT.insP d k p l) r
    | false => .node d' k' p' l (BT.insP d k p r)

/-- The same; what follows gets the whole tree. -/
noncomputable def BT.ins {α : Type} (d : Df) (k p : Nat) (t : BT) : (BT → α) → α :=
  BT.rec (motive := fun _ => (BT → α) → α) (fun K => K (.node d k p .nil .nil))
    (fun d' k' p' l r il ir K => Bool.rec (motive := fun _ => α) (ir fun r' => K (.node d' k' p' l r')) (il fun l' => K (.node d' k' p' l' r)) (Nat.blt k k')) t

theorem BT.ins_eq {α : Type} (d : Df) (k p : Nat) : ∀ (t : BT) (K : BT → α), t.ins d k p K = K (t.insP d k p)
  | .nil, K => rfl
  | .node d' k' p' l r, K => by
    show Bool.rec (motive := fun _ => α) (r.ins d k p fun r' => K (.node d' k' p' l r')) (l.ins d k p fun l' => K (.node d' k' p' l' r)) (Nat.blt k k') = K (BT.insP d k p (.node d' k' p' l r))
    unfold BT.insP
    cases Nat.blt k k' with
    | true => exact BT.ins_eq d k p l _
    | false => exact BT.ins_eq d k p r _

/-- Where a node stands. -/
noncomputable def BT.find (t : BT) (k : Nat) : Option (Df × Nat) :=
  BT.rec (motive := fun _ => Option (Df × Nat)) none (fun d k' p _ _ fl fr => Bool.rec (motive := fun _ => Option (Df × Nat)) (Bool.rec (motive := fun _ => Option (Df × Nat)) fr fl (Nat.blt k k')) (some (d, p)) (Nat.beq k k')) t

def BT.Mem (d : Df) : BT → Prop
  | .nil => False
  | .node d' _ _ l r => d = d' ∨ l.Mem d ∨ r.Mem d

theorem BT.find_mem {k : Nat} {d : Df} {p : Nat} : ∀ {t : BT}, t.find k = some (d, p) → t.Mem d
  | .nil, h => by cases h
  | .node d' k' p' l r, h => by
    have h' : Bool.rec (motive := fun _ => Option (Df × Nat)) (Bool.rec (motive := fun _ => Option (Df × Nat)) (r.find k) (l.find k) (Nat.blt k k')) (some (d', p')) (Nat.beq k k') = some (d, p) := h
    cases h1 : Nat.beq k k' with
    | true => rw [h1] at h'; cases h'; exact Or.inl rfl
    | false =>
      rw [h1] at h'
      cases h2 : Nat.blt k k' with
      | true => rw [h2] at h'; exact Or.inr (Or.inl (BT.find_mem h'))
      | false => rw [h2] at h'; exact Or.inr (Or.inr (BT.find_mem h'))

theorem BT.insP_mem {d e : Df} {k p : Nat} : ∀ {t : BT}, (t.insP d k p).Mem e → e = d ∨ t.Mem e
  | .nil, h => by
    rcases h with h | h | h
    · exact Or.inl h
    · exact h.elim
    · exact h.elim
  | .node d' k' p' l r, h => by
    unfold BT.insP at h
    split at h
    · rcases h with h | h | h
      · exact Or.inr (Or.inl h)
      · rcases BT.insP_mem h with h | h
        · exact Or.inl h
        · exact Or.inr (Or.inr (Or.inl h))
      · exact Or.inr (Or.inr (Or.inr h))
    · rcases h with h | h | h
      · exact Or.inr (Or.inl h)
      · exact Or.inr (Or.inr (Or.inl h))
      · rcases BT.insP_mem h with h | h
        · exact Or.inl h
        · exact Or.inr (Or.inr (Or.inr h))

/-- The list as a tree, with the places from n downwards. -/
noncomputable def BT.ofL (l : List Df) : BT → Nat → BT :=
  List.rec (motive := fun _ => BT → Nat → BT) (fun t _ => t) (fun d _ ih t n => Bool.rec (motive := fun _ => BT) (t.ins d d.id (Nat.sub n 1) fun t' => ih t' (Nat.sub n 1)) (t.ins d d.id (Nat.sub n 1) fun t' => ih t' (Nat.sub n 1)) (Nat.blt (Nat.sub n 1) 1)) l

theorem bool_both {α : Type} (b : Bool) (x : α) : Bool.rec (motive := fun _ => α) x x b = x := by cases b <;> rfl

theorem BT.ofL_mem {d : Df} : ∀ {l : List Df} {t : BT} {n : Nat}, (BT.ofL l t n).Mem d → d ∈ l ∨ t.Mem d
  | [], t, n, h => Or.inr h
  | e :: l, t, n, h => by
    have h0 : (Bool.rec (motive := fun _ => BT) (t.ins e e.id (Nat.sub n 1) fun t' => BT.ofL l t' (Nat.sub n 1)) (t.ins e e.id (Nat.sub n 1) fun t' => BT.ofL l t' (Nat.sub n 1)) (Nat.blt (Nat.sub n 1) 1)).Mem d := h
    rw [bool_both] at h0
    have h' : (t.ins e e.id (Nat.sub n 1) fun t' => BT.ofL l t' (Nat.sub n 1)).Mem d := h0
    rw [BT.ins_eq] at h'
    rcases BT.ofL_mem h' with h' | h'
    · exact Or.inl (List.mem_cons_of_mem _ h')
    · rcases BT.insP_mem h' with h' | h'
      · exact Or.inl (by rw [h']; exact List.mem_cons_self)
      · exact Or.inr h'

noncomputable def lenOf (l : List Df) : Nat := List.rec (motive := fun _ => Nat) 0 (fun _ _ ih => Nat.succ ih) l
noncomputable def BT.all (l : List Df) (n : Nat) : BT := BT.ofL l .nil n

noncomputable def BT.has (t : BT) (d : Df) : Bool := match t.find d.id with
  | some (e, _) => d.beq e
  | none => false

theorem Df.beq_refl (d : Df) : d.beq d = true := by
  have hl : ∀ l : List Nat, beqL l l = true := fun l => by
    induction l with
    | nil => rfl
    | cons a l ih => simp only [beqL, Nat.beq_refl, ih, Bool.and_self]
  simp only [Df.beq, Nat.beq_refl, hl, Bool.and_self]
theorem memD_of {d : Df} : ∀ {l : List Df}, d ∈ l → memD d l = true
  | e :: l, h => by
    simp only [memD, Bool.or_eq_true]
    rcases List.mem_cons.1 h with rfl | h
    · exact Or.inl (Df.beq_refl d)
    · exact Or.inr (memD_of h)
theorem BT.has_ok {l : List Df} {n : Nat} {d : Df} (h : (BT.all l n).has d = true) : memD d l = true := by
  unfold BT.has at h
  split at h
  · rename_i e p he
    rw [Df.beq_eq h]
    rcases BT.ofL_mem (BT.find_mem he) with h | h
    · exact memD_of h
    · exact h.elim
  · cases h

/-! ### Order -/

noncomputable def posOf (t : BT) (i : Nat) : Option Nat := match t.find i with
  | some (_, p) => some p
  | none => none

noncomputable def wfB (f : Nat → Option Nat) (l : List Df) : Nat → Bool :=
  List.rec (motive := fun _ => Nat → Bool) (fun n => Nat.beq n 0) (fun d _ ih n => Bool.rec (motive := fun _ => Bool) false
    (Bool.rec (motive := fun _ => Bool) false (ih (Nat.sub n 1)) (d.args.all fun x => match f x with | none => true | some q => Nat.blt q (Nat.sub n 1)))
    (match f d.id with | some q => Nat.beq q (Nat.sub n 1) && Nat.blt 0 n | none => false)) l

theorem memN_of_not {n : Nat} : ∀ {l : List Nat}, n ∉ l → memN n l = false
  | [], _ => rfl
  | x :: r, h => by
    simp only [memN, Bool.or_eq_false_iff]
    refine ⟨?_, memN_of_not fun hm => h (List.mem_cons_of_mem _ hm)⟩
    cases hb : Nat.beq n x with
    | false => rfl
    | true => exact absurd (by rw [Nat.eq_of_beq_eq_true hb]; exact List.mem_cons_self) h

theorem wfB_ok {f : Nat → Option Nat} : ∀ (l : List Df) (n : Nat) (later : List Nat), wfB f l n = true → (∀ i ∈ later, ∃ q, f i = some q ∧ n ≤ q) → wfT (withIds l) later = true
  | [], n, later, h, hl => rfl
  | d :: T, n, later, h, hl => by
    have h' : Bool.rec (motive := fun _ => Bool) false (Bool.rec (motive := fun _ => Bool) false (wfB f T (Nat.sub n 1)) (d.args.all fun x => match f x with | none => true | some q => Nat.blt q (Nat.sub n 1)))
      (match f d.id with | some q => Nat.beq q (Nat.sub n 1) && Nat.blt 0 n | none => false) = true := h
    cases h1 : (match f d.id with | some q => Nat.beq q (Nat.sub n 1) && Nat.blt 0 n | none => false) with
    | false => rw [h1] at h'; cases h'
    | true =>
      rw [h1] at h'
      cases h2 : (d.args.all fun x => match f x with | none => true | some q => Nat.blt q (Nat.sub n 1)) with
      | false => rw [h2] at h'; cases h'
      | true =>
        rw [h2] at h'
        have h' : wfB f T (n - 1) = true := h'
        obtain ⟨hn, hd⟩ : 0 < n ∧ f d.id = some (n - 1) := by
          split at h1
          · rename_i q hq
            simp only [Bool.and_eq_true] at h1
            exact ⟨by simpa using h1.2, by rw [hq, Nat.eq_of_beq_eq_true h1.1]; rfl⟩
          · cases h1
        have hargs : ∀ x ∈ d.args, x ∉ d.id :: later := fun x hx hm => by
          have := List.all_eq_true.1 h2 x hx
          have hq : ∃ q, f x = some q ∧ n - 1 ≤ q := by
            rcases List.mem_cons.1 hm with rfl | hm
            · exact ⟨_, hd, Nat.le_refl _⟩
            · obtain ⟨q, h3, h4⟩ := hl x hm; exact ⟨q, h3, by omega⟩
          obtain ⟨q, h3, h4⟩ := hq
          rw [h3] at this
          have h5 : q < n - 1 := by simpa using this
          omega
        have hni : d.id ∉ later := fun hm => by
          obtain ⟨q, h3, h4⟩ := hl _ hm
          rw [hd] at h3
          cases h3
          omega
        simp only [withIds, List.map_cons, wfT, Bool.and_eq_true]
        refine ⟨⟨by rw [memN_of_not hni]; rfl, ?_⟩, wfB_ok T (n - 1) _ h' ?_⟩
        · refine List.all_eq_true.2 fun x hx => ?_
          rw [memN_of_not (hargs x hx)]; rfl
        · intro i hi
          rcases List.mem_cons.1 hi with rfl | hi
          · exact ⟨_, hd, Nat.le_refl _⟩
          · obtain ⟨q, h3, h4⟩ := hl i hi; exact ⟨q, h3, by omega⟩

theorem wf_tree {l : List Df} {n : Nat} (h : wfB (posOf (BT.all l n)) l n = true) : wfT (withIds l) [] = true := wfB_ok l n [] h fun i hi => by simp at hi

/-! ### Nodes gathered, ways checked -/

noncomputable def DT.gatB {α β : Type} (m : DT α) : List Df → BT → (List Df → BT → β) → β :=
  DT.rec (motive := fun _ => List Df → BT → (List Df → BT → β) → β) (fun _ T t K => K T t) (fun _ _ _ gt ge T t K => gt T t (fun T' t' => ge T' t' K))
    (fun d _ gk T t K => Bool.rec (motive := fun _ => β) (t.ins d d.id 0 fun t' => gk (d :: T) t' K) (gk T t K) (t.has d)) (fun _ _ _ gk T t K => gk T t K) (fun _ T t K => K T t) m

noncomputable def gat2 {α : Type} (m k : DT α) : List Df := m.gatB [] .nil fun T t => k.gatB T t fun T _ => T

noncomputable def DT.chkG {α : Type} (mem : Df → Bool) (R : List Rq) (X : List (List Fact)) (leaf : α → Bool) : List Fact → DT α → Bool
  | _, .ret x => leaf x
  | F, .split c t e => (anyX X ((c, true) :: F) || t.chkG mem R X leaf ((c, true) :: F)) && (anyX X ((c, false) :: F) || e.chkG mem R X leaf ((c, false) :: F))
  | F, .mk d k => mem d && k.chkG mem R X leaf F
  | F, .req g n k => anyR R g n F && k.chkG mem R X leaf F
  | _, .fail _ => false

theorem chkG_ok {α : Type} {mem : Df → Bool} {T : List Df} (hm : ∀ d, mem d = true → memD d T = true) {R : List Rq} {X : List (List Fact)} {leaf : α → Bool} : ∀ (m : DT α) (F : List Fact), m.chkG mem R X leaf F = true → m.chkF T R X leaf F = true
  | .ret x, F, h => h
  | .split c t e, F, h => by
    simp only [DT.chkG, DT.chkF, Bool.and_eq_true, Bool.or_eq_true] at h ⊢
    exact ⟨h.1.imp id (chkG_ok hm t _), h.2.imp id (chkG_ok hm e _)⟩
  | .mk d k, F, h => by
    simp only [DT.chkG, DT.chkF, Bool.and_eq_true] at h ⊢
    exact ⟨hm d h.1, chkG_ok hm k F h.2⟩
  | .req g n k, F, h => by
    simp only [DT.chkG, DT.chkF, Bool.and_eq_true] at h ⊢
    exact ⟨h.1, chkG_ok hm k F h.2⟩
  | .fail y, F, h => by cases h
theorem chkF_tree {α : Type} {T : List Df} {n : Nat} {R : List Rq} {X : List (List Fact)} {leaf : α → Bool} {m : DT α} (h : m.chkG (BT.all T n).has R X leaf [] = true) : m.chkF T R X leaf [] = true := chkG_ok (fun _ hd => BT.has_ok hd) m [] h
end Go.Proofs.Ytapinopfminmiaa
