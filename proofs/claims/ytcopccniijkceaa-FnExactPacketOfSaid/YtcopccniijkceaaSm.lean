/- A region that draws its order, where several operations store, one after the other, into memory that there was: all that reads memory comes before. No condition. -/
import Derived.Test.YtcopccniijkceaaSs
namespace Go.Proofs.Ytcopccniijkceaa.K
open Go Go.RowKit Go.Proofs.Ytcopccniijkceaa
set_option linter.unusedVariables false
set_option linter.unusedSimpArgs false

def isSt (o : Oper) : Option (TypeId × Operand × Operand) :=
  match o.guard, o.dst, o.op with
  | none, none, .store ty x y => some (ty, x, y)
  | _, _, _ => none

theorem isSt_ok {o : Oper} {ty : TypeId} {x y : Operand} (h : isSt o = some (ty, x, y)) : o.guard = none ∧ o.dst = none ∧ o.op = .store ty x y := by
  unfold isSt at h
  split at h
  · rename_i h1 h2 h3; cases h; exact ⟨h1, h2, h3⟩
  · cases h

def nz (o : Oper) : Oper := match isSt o with
  | some _ => noop o
  | none => o

theorem nz_none {o : Oper} (h : isSt o = none) : nz o = o := by unfold nz; rw [h]
theorem nz_after (o : Oper) : (nz o).after = o.after := by unfold nz; split <;> rfl
theorem nz_dst (o : Oper) : (nz o).dst = o.dst := by
  unfold nz
  split
  · rename_i e he
    obtain ⟨ty, x, y⟩ := e
    rw [(isSt_ok he).2.1]; rfl
  · rfl

theorem getNz (l : List Oper) (j : Nat) : (l.map nz).toArray[j]? = (l.toArray[j]?).map nz := by simp

theorem ready_nz (md : Region.Mode) (l : List Oper) (listed : Array Bool) : Region.ready md (l.map nz).toArray listed = Region.ready md l.toArray listed := by
  unfold Region.ready
  simp only [List.size_toArray, List.length_map]
  refine List.filter_congr fun j _ => ?_
  rw [getNz]
  cases l.toArray[j]? with
  | none => rfl
  | some o => simp [nz_after]

theorem seqB_nz {md : Region.Mode} {l : List Oper} : ∀ {g k : Nat} {listed : Array Bool}, Region.seqB md (l.map nz).toArray g k listed = true → Region.seqB md l.toArray g k listed = true
  | 0, k, listed, h => by unfold Region.seqB at h ⊢; rw [ready_nz] at h; exact h
  | g + 1, k, listed, h => by
    unfold Region.seqB at h ⊢
    rw [ready_nz] at h
    simp only [Bool.and_eq_true] at h ⊢
    exact ⟨h.1, seqB_nz h.2⟩

theorem yielded_nz (l : List Oper) (tmps : Array Value) : yielded (l.map nz).toArray tmps = yielded l.toArray tmps := by
  funext j
  unfold yielded
  rw [getNz]
  cases l.toArray[j]? with
  | none => rfl
  | some o => simp [nz_dst]

/-- What may come behind a store. -/
def lateOp (o : Oper) : Option (List Operand) :=
  match o.guard, o.op with
  | none, .move x => some [x]
  | none, .assign x => some [x]
  | none, .extract x _ => some [x]
  | none, .nilCheck x => some [x]
  | none, .indexAddr _ x i => some [x, i]
  | none, .load _ x => some [x]
  | none, .fieldAddr _ x _ => some [x]
  | none, .binOp _ _ x y _ => some [x, y]
  | _, _ => none

theorem late_congr {o : Oper} {l : List Operand} (h : lateOp o = some l) {e e' : Operand → Value} (he : ∀ x ∈ l, e x = e' x) : o.guard = none ∧ execOp e o = execOp e' o := by
  unfold lateOp at h
  split at h
  · rename_i x hg hop; cases h; exact ⟨hg, by simp only [execOp, hop, he x (by simp)]⟩
  · rename_i x hg hop; cases h; exact ⟨hg, by simp only [execOp, hop, he x (by simp)]⟩
  · rename_i x k hg hop; cases h; exact ⟨hg, by simp only [execOp, hop, he x (by simp)]⟩
  · rename_i x hg hop; cases h; exact ⟨hg, by simp only [execOp, hop, he x (by simp)]⟩
  · rename_i t x i hg hop; cases h; exact ⟨hg, by simp only [execOp, hop, he x (by simp), he i (by simp)]⟩
  · rename_i t x hg hop; cases h; exact ⟨hg, by simp only [execOp, hop, he x (by simp)]⟩
  · rename_i t x k hg hop; cases h; exact ⟨hg, by simp only [execOp, hop, he x (by simp)]⟩
  · rename_i op t x y t2 hg hop; cases h; exact ⟨hg, by simp only [execOp, hop, he x (by simp), he y (by simp)]⟩
  · cases h

def waits (md : Region.Mode) (o : Oper) (j : Nat) : Bool := o.after.toList.any fun e => Region.binds md e && Nat.beq e.on j

/-- Each operation that writes one of these operands comes before. -/
def wrB (md : Region.Mode) (ops : List Oper) (o : Oper) (l : List Operand) : Bool :=
  (List.range ops.length).all fun j => match (ops[j]?).bind (·.dst) with
    | some t => if l.any (tmpIs · t) then waits md o j else true
    | none => true

theorem waits_ok {md : Region.Mode} {o : Oper} {j : Nat} (h : waits md o j = true) {listed : Array Bool} (hr : ∀ e ∈ o.after, Region.binds md e = true → listed.getD e.on false = true) : listed.getD j false = true := by
  obtain ⟨e, he, hb⟩ := List.any_eq_true.1 h
  simp only [Bool.and_eq_true] at hb
  have h1 := hr e (by simpa using he) hb.1
  rw [Nat.eq_of_beq_eq_true hb.2] at h1
  exact h1

theorem both {listed : Array Bool} {j : Nat} (h : listed.getD j false = true) : listed.getD j true = true := by
  cases hl : listed.getD j true with
  | true => rfl
  | false =>
    have := getD_both hl
    rw [h] at this
    cases this

theorem wrB_ok {md : Region.Mode} {ops : List Oper} {o : Oper} {l : List Operand} (h : wrB md ops o l = true) {listed : Array Bool} (hr : ∀ e ∈ o.after, Region.binds md e = true → listed.getD e.on false = true) {t : Tmp} (ht : Operand.tmp t ∈ l) : Wrote ops.toArray listed t := by
  intro j oj hj hd
  have hj' : ops[j]? = some oj := by simpa using hj
  have hlt : j < ops.length := (List.getElem?_eq_some_iff.1 hj').1
  have := List.all_eq_true.1 h j (List.mem_range.2 hlt)
  rw [hj'] at this
  simp only [Option.bind_some, hd] at this
  have hc : l.any (tmpIs · t) = true := List.any_eq_true.2 ⟨_, ht, by simp [tmpIs]⟩
  rw [if_pos hc] at this
  exact both (waits_ok this hr)

def storeOf (ops : List Oper) (i : Nat) : Option (TypeId × Operand × Operand) := (ops[i]?).bind isSt

/-- The stores, the last ones wait for the first ones. -/
def chainB (md : Region.Mode) (ops : List Oper) : List Nat → Bool
  | [] => true
  | i :: r => (r.all fun j => match ops[j]? with
    | some o => waits md o i
    | none => false) && chainB md ops r

def lateB (md : Region.Mode) (ops : List Oper) (n i0 : Nat) : Bool :=
  (List.range n).all fun j => match ops[j]?, ops[i0]? with
    | some o, some s => match isSt o with
      | some _ => true
      | none => waits md s j || (match lateOp o with
        | some l => wrB md ops o l
        | none => false)
    | _, _ => false

def operB (md : Region.Mode) (ops : List Oper) (i : Nat) : Bool := match ops[i]? with
  | some o => match isSt o with
    | some (_, x, y) => wrB md ops o [x, y]
    | none => false
  | none => false

def Runs (P : Program) : List (TypeId × Value × Value) → World → World → Prop
  | [], w, w' => w' = w
  | e :: r, w, w' => ∃ w1, (Instr.storeAt e.1 e.2.1 e.2.2).run P w = .ok () w1 ∧ Runs P r w1 w'

theorem Runs.det {P : Program} : ∀ {r : List (TypeId × Value × Value)} {w w' w'' : World}, Runs P r w w' → Runs P r w w'' → w' = w''
  | [], w, w', w'', h1, h2 => by rw [show w' = w from h1, show w'' = w from h2]
  | e :: r, w, w', w'', ⟨w1, a1, b1⟩, ⟨w2, a2, b2⟩ => by
    rw [a1] at a2
    cases a2
    exact b1.det b2
theorem Runs.snoc {P : Program} : ∀ {r : List (TypeId × Value × Value)} {e : TypeId × Value × Value} {w w1 w' : World}, Runs P r w w1 → (Instr.storeAt e.1 e.2.1 e.2.2).run P w1 = .ok () w' → Runs P (r ++ [e]) w w'
  | [], e, w, w1, w', h, h2 => by obtain rfl : w1 = w := h; exact ⟨w', h2, rfl⟩
  | x :: r, e, w, w1, w', ⟨w2, a, b⟩, h2 => ⟨w2, a, b.snoc h2⟩
theorem Runs.split {P : Program} : ∀ {r : List (TypeId × Value × Value)} {s : List (TypeId × Value × Value)} {w w' : World}, Runs P (r ++ s) w w' → ∃ w1, Runs P r w w1 ∧ Runs P s w1 w'
  | [], s, w, w', h => ⟨w, rfl, h⟩
  | x :: r, s, w, w', ⟨w2, a, b⟩ => by obtain ⟨w1, h1, h2⟩ := Runs.split b; exact ⟨w1, ⟨w2, a, h1⟩, h2⟩

def evS (ops : List Oper) (a : Act) (i : Nat) : TypeId × Value × Value := match storeOf ops i with
  | some (t, x, y) => (t, a.eval x, a.eval y)
  | none => (0, undef, undef)

theorem evS_same {ops : List Oper} {a a' : Act} {i : Nat} (h : ∀ t x y, storeOf ops i = some (t, x, y) → a'.eval x = a.eval x ∧ a'.eval y = a.eval y) : evS ops a' i = evS ops a i := by
  unfold evS
  cases hs : storeOf ops i with
  | none => rfl
  | some e =>
    obtain ⟨t, x, y⟩ := e
    simp only
    rw [(h t x y hs).1, (h t x y hs).2]

section
variable {P : Program} {md : Region.Mode} {W : World} {S : Option Tmp → Value → Prop} {ops : List Oper} {n : Nat}

/-- What the stores read has been written. -/
def Wr (ops : List Oper) (listed : Array Bool) (i : Nat) : Prop := ∀ t x y, storeOf ops i = some (t, x, y) → ∀ s, (x = .tmp s ∨ y = .tmp s) → Wrote ops.toArray listed s

theorem Wr.set {listed : Array Bool} {i : Nat} (h : Wr ops listed i) (j : Nat) : Wr ops (listed.setIfInBounds j true) i := fun t x y hs s hx => (h t x y hs s hx).set j

theorem evOp {a a' : Act} {x : Operand} (h : ∀ s, x = .tmp s → a'.tmps.getD s undef = a.tmps.getD s undef) : a'.eval x = a.eval x := by
  cases x with
  | tmp s => exact h s rfl
  | const v => rfl
  | global v => rfl
  | func v => rfl

structure MInv (P : Program) (W : World) (md : Region.Mode) (ops : List Oper) (sts : List Nat) (listed : Array Bool) (a : Act) (w : World) (k : Nat) : Prop where
  le : k ≤ sts.length
  done : ∀ i ∈ sts.take k, listed.getD i false = true ∧ Wr ops listed i ∧ ∀ o, ops[i]? = some o → ∀ e ∈ o.after, Region.binds md e = true → listed.getD e.on false = true
  todo : ∀ i ∈ sts.drop k, listed.getD i false = false
  world : ∃ w1, Stays W w1 ∧ Runs P ((sts.take k).map (evS ops a)) w1 w

/-- What is asked at the end: the late operations give the same behind the stores as ahead of them; a draw ahead of the stores is a draw behind them; the stores go. -/
structure MEnd (P : Program) (W : World) (md : Region.Mode) (ops : List Oper) (sts : List Nat) (n : Nat) (a : Act) : Prop where
  late : ∀ j o l, j < n → ops[j]? = some o → isSt o = none → lateOp o = some l → (∃ i0 o0, sts[0]? = some i0 ∧ ops[i0]? = some o0 ∧ waits md o0 j = false) → ∀ k w1 w, Stays W w1 → Runs P ((sts.take k).map (evS ops a)) w1 w →
    ∃ v m, (execOp a.eval o).run P w = .ok (.value v) (w.drewN m) ∧ (execOp a.eval o).run P w1 = .ok (.value v) (w1.drewN m)
  comm : ∀ k w1 w m, Stays W w1 → Runs P ((sts.take k).map (evS ops a)) w1 w → Runs P ((sts.take k).map (evS ops a)) (w1.drewN m) (w.drewN m)
  runs : ∀ w, Stays W w → ∃ w', Runs P (sts.map (evS ops a)) w w'

theorem chain_ok : ∀ {sts : List Nat}, chainB md ops sts = true → ∀ (p q : Nat) (_ : p < q) (i j : Nat), sts[p]? = some i → sts[q]? = some j → ∃ o, ops[j]? = some o ∧ waits md o i = true
  | x :: r, h, 0, q + 1, _, i, j, h1, h2 => by
    simp only [chainB, Bool.and_eq_true] at h
    obtain rfl : x = i := by simpa using h1
    have hj : j ∈ r := List.mem_of_getElem? (by simpa using h2)
    have := List.all_eq_true.1 h.1 j hj
    split at this
    · rename_i o ho; exact ⟨o, ho, this⟩
    · cases this
  | x :: r, h, p + 1, q + 1, hp, i, j, h1, h2 => by
    simp only [chainB, Bool.and_eq_true] at h
    exact chain_ok h.2 p q (by omega) i j (by simpa using h1) (by simpa using h2)
  | [], h, p, q, hp, i, j, h1, h2 => by simp at h1

theorem headM {g : Nat} {sts : List Nat} (hsts : ∀ i o, ops[i]? = some o → i < n → (isSt o).isSome = true → i ∈ sts) (hst2 : ∀ i ∈ sts, i < ops.length ∧ ∃ o, ops[i]? = some o ∧ (isSt o).isSome = true) (hch : chainB md ops sts = true) (hnd : sts.Nodup)
    (hop : ∀ i ∈ sts, operB md ops i = true) (hlate : ∀ i0, sts[0]? = some i0 → lateB md ops n i0 = true)
    {L : Array Bool → Act → Prop} {Q' : Exit → Act → World → Prop} (hL : ∀ listed a w k, MInv P W md ops sts listed a w k → L listed a → wpAny P md ops.toArray Q' g listed a w) (hF : ∀ listed a, L listed a → MEnd P W md ops sts n a) :
    ∀ (f : Nat) (listed : Array Bool) (a : Act) (w : World) (k : Nat), listed.size = ops.length → MInv P W md ops sts listed a w k → headSoft P md (ops.map nz).toArray W S [] n L f listed a → wpAny P md ops.toArray Q' (f + g) listed a w
  | 0, listed, a, w, k, hsz, hv, h => by rw [Nat.zero_add]; exact hL _ _ _ _ hv h
  | f + 1, listed, a, w, k, hsz, hv, h => by
    rw [show f + 1 + g = (f + g) + 1 by omega]
    obtain ⟨hne, hall⟩ := h
    refine ⟨fun h0 => absurd (by rw [ready_nz]; exact h0) hne, fun j hj => ?_⟩
    have hjn := (hall j (by rw [ready_nz]; exact hj)).1
    have h1 := (hall j (by rw [ready_nz]; exact hj)).2
    obtain ⟨hun, oj, hoj, hedge⟩ := mem_ready.1 hj
    have hoj' : ops[j]? = some oj := by simpa using hoj
    have hjl : j < ops.length := (List.getElem?_eq_some_iff.1 hoj').1
    unfold softAt at h1
    rw [getNz, hoj, Option.map_some] at h1
    unfold wpOp
    rw [hoj]
    simp only
    have hlf : listed.getD j false = false := getD_both hun
    have hlj : (listed.setIfInBounds j true).getD j false = true := by
      have : j < listed.size := by omega
      simp [Array.getD_eq_getD_getElem?, this]
    cases hs : isSt oj with
    | some e =>
      obtain ⟨ty, x, y⟩ := e
      obtain ⟨hg, hd, hop'⟩ := isSt_ok hs
      have hmem : j ∈ sts := hsts j oj hoj' hjn (by rw [hs]; rfl)
      have hso : storeOf ops j = some (ty, x, y) := by unfold storeOf; rw [hoj', Option.bind_some, hs]
      rw [if_pos (by simp [Region.wanted, hg])]
      refine Or.inl ?_
      obtain ⟨u, hu⟩ := h1.some
      have hnz : (nz oj).dst = none := by rw [nz_dst, hd]
      have h2 : headSoft P md (ops.map nz).toArray W S [] n L f (listed.setIfInBounds j true) a := by
        have := h1.next u hu
        rw [hnz] at this
        exact this
      -- it is the next one
      obtain ⟨q, hq⟩ := List.getElem?_of_mem hmem
      have hkq : q = k := by
        rcases Nat.lt_trichotomy q k with hlt | heq | hgt
        · have : j ∈ sts.take k := List.mem_of_getElem? (by rw [List.getElem?_take_of_lt hlt]; exact hq)
          have := (hv.done j this).1
          rw [hlf] at this
          cases this
        · exact heq
        · have hkl : k < sts.length := by have := (List.getElem?_eq_some_iff.1 hq).1; omega
          obtain ⟨o', ho', hw'⟩ := chain_ok hch k q hgt sts[k] j (List.getElem?_eq_getElem hkl) hq
          rw [hoj'] at ho'
          cases ho'
          have h3 := waits_ok hw' hedge
          have h4 := hv.todo sts[k] (List.mem_of_getElem? (i := 0) (by simp [hkl]))
          rw [h3] at h4
          cases h4
      subst hkq
      have hql : q < sts.length := (List.getElem?_eq_some_iff.1 hq).1
      have hwj : Wr ops listed j := by
        intro t' x' y' hs' s hx
        rw [hso] at hs'
        cases hs'
        have hb := hop j hmem
        unfold operB at hb
        rw [hoj'] at hb
        simp only [hs] at hb
        exact wrB_ok hb hedge (by rcases hx with rfl | rfl <;> simp)
      obtain ⟨listed', a', hLa, hsame⟩ := headSoft_end f _ _ h2
      have hE := hF _ _ hLa
      have hsm : ∀ i, Wr ops listed i → evS ops a' i = evS ops a i := fun i hi => evS_same fun t' x' y' hs' =>
        ⟨evOp fun s hx => hsame s (by have := (hi t' x' y' hs' s (Or.inl hx)).set j; intro k' ok hk' hd'; rw [getNz] at hk'; cases hb : ops.toArray[k']? with
            | none => rw [hb] at hk'; cases hk'
            | some ob => rw [hb] at hk'; cases hk'; rw [nz_dst] at hd'; exact this k' ob hb hd'),
         evOp fun s hx => hsame s (by have := (hi t' x' y' hs' s (Or.inr hx)).set j; intro k' ok hk' hd'; rw [getNz] at hk'; cases hb : ops.toArray[k']? with
            | none => rw [hb] at hk'; cases hk'
            | some ob => rw [hb] at hk'; cases hk'; rw [nz_dst] at hd'; exact this k' ob hb hd')⟩
      obtain ⟨w1, hw1, hr1⟩ := hv.world
      obtain ⟨wz, hrz⟩ := hE.runs w1 hw1
      have hcut : sts.map (evS ops a') = (sts.take q).map (evS ops a') ++ (evS ops a' j :: (sts.drop (q + 1)).map (evS ops a')) := by
        have hdrop : sts.drop q = j :: sts.drop (q + 1) := by
          rw [List.drop_eq_getElem_cons hql, (List.getElem?_eq_some_iff.1 hq).2]
        rw [← List.map_cons, ← List.map_append, ← hdrop, List.take_append_drop]
      rw [hcut] at hrz
      obtain ⟨w2, hr2, w3, hr3, _⟩ := hrz.split
      have hsame1 : (sts.take q).map (evS ops a') = (sts.take q).map (evS ops a) := List.map_congr_left fun i hi => hsm i (hv.done i hi).2.1
      rw [hsame1] at hr2
      obtain rfl := hr1.det hr2
      rw [hsm j hwj] at hr3
      have hev : evS ops a j = (ty, a.eval x, a.eval y) := by unfold evS; rw [hso]
      rw [hev] at hr3
      unfold Oper.wp
      simp only at hr3
      simp only [execOp, hop', Sem.run_bind, hr3, Result.andThen_ok]
      have hput : a.put oj.dst undef = a := by rw [hd]; rfl
      have htk : sts.take (q + 1) = sts.take q ++ [j] := by rw [List.take_add_one, hq]; rfl
      have fin : wpAny P md ops.toArray Q' (f + g) (listed.setIfInBounds j true) a w3 := by
        refine headM hsts hst2 hch hnd hop hlate hL hF f _ a w3 (q + 1) (by simp [hsz]) ⟨by omega, ?_, ?_, w1, hw1, ?_⟩ h2
        · intro i hi
          rw [htk, List.mem_append] at hi
          rcases hi with hi | hi
          · obtain ⟨b1, b2, b3⟩ := hv.done i hi
            exact ⟨getD_set_true b1, b2.set j, fun o ho e he hb => getD_set_true (b3 o ho e he hb)⟩
          · simp at hi
            subst hi
            exact ⟨hlj, hwj.set i, fun o ho e he hb => by rw [hoj'] at ho; cases ho; exact getD_set_true (hedge e he hb)⟩
        · intro i hi
          have hi' : i ∈ sts.drop q := by rw [List.drop_eq_getElem_cons hql]; exact List.mem_cons_of_mem _ hi
          have hij : j ≠ i := by
            intro e
            subst e
            obtain ⟨p, hp⟩ := List.getElem?_of_mem hi
            rw [List.getElem?_drop] at hp
            have := (List.getElem?_inj hql hnd).1 (hq.trans hp.symm)
            omega
          rw [getD_set_ne false hij]
          exact hv.todo i hi'
        · rw [htk, List.map_append]
          have hr1' := hr1
          exact hr1.snoc (by rw [hev]; exact hr3)
      have fin' : (fun a' w' => wpAny P md ops.toArray Q' (f + g) (listed.setIfInBounds j true) a' w') (a.put oj.dst undef) w3 := by rw [hput]; exact fin
      exact fin'
    | none =>
      rw [nz_none hs] at h1
      have hjs : j ∉ sts := fun hm => by
        obtain ⟨_, o', ho', hs'⟩ := hst2 j hm
        rw [hoj'] at ho'
        cases ho'
        rw [hs] at hs'
        cases hs'
      have hnd' : ∀ t, Wrote ops.toArray listed t → oj.dst ≠ some t := fun t ht e => by
        have := ht j oj hoj e
        rw [hun] at this
        cases this
      have next : ∀ u w', (k = 0 → Stays W w') → (k ≠ 0 → ∃ w1, Stays W w1 ∧ Runs P ((sts.take k).map (evS ops a)) w1 w') → MInv P W md ops sts (listed.setIfInBounds j true) (a.put oj.dst u) w' k := by
        intro u w' hk0 hk1
        refine ⟨hv.le, fun i hi => ?_, fun i hi => ?_, ?_⟩
        · obtain ⟨b1, b2, b3⟩ := hv.done i hi
          exact ⟨getD_set_true b1, b2.set j, fun o ho e he hb => getD_set_true (b3 o ho e he hb)⟩
        · rw [getD_set_ne false (fun e => hjs (by rw [e]; exact List.mem_of_mem_drop hi))]
          exact hv.todo i hi
        · by_cases hk : k = 0
          · subst hk; exact ⟨w', hk0 rfl, rfl⟩
          · obtain ⟨w1, hw1, hr1⟩ := hk1 hk
            refine ⟨w1, hw1, ?_⟩
            have : (sts.take k).map (evS ops (a.put oj.dst u)) = (sts.take k).map (evS ops a) := List.map_congr_left fun i hi => evS_same fun t' x' y' hs' =>
              ⟨evOp fun s hx => put_getD_ne a oj.dst u s (hnd' s ((hv.done i hi).2.1 t' x' y' hs' s (Or.inl hx))), evOp fun s hx => put_getD_ne a oj.dst u s (hnd' s ((hv.done i hi).2.1 t' x' y' hs' s (Or.inr hx)))⟩
            rw [this]
            exact hr1
      have hyd : yielded (ops.map nz).toArray a.tmps = yielded ops.toArray a.tmps := yielded_nz ops a.tmps
      by_cases hk : k = 0
      · subst hk
        have hSt : Stays W w := by
          obtain ⟨w1, hw1, hr1⟩ := hv.world
          obtain rfl : w = w1 := hr1
          exact hw1
        split
        · rename_i hwa
          refine Or.inl ?_
          refine soft_to_wp2 hSt (K' := fun a' w' => wpAny P md ops.toArray Q' (f + g) (listed.setIfInBounds j true) a' w') (fun u w' hww h' => ?_) (by rw [hyd]; exact hwa) h1
          exact headM hsts hst2 hch hnd hop hlate hL hF f _ _ w' 0 (by simp [hsz]) (next u w' (fun _ => hSt.trans hww) (fun h => absurd rfl h)) h'
        · rename_i hwa
          have hwa' : Region.wanted oj (yielded (ops.map nz).toArray a.tmps) = false := by rw [hyd]; simpa using hwa
          exact headM hsts hst2 hch hnd hop hlate hL hF f _ _ w 0 (by simp [hsz]) (next undef w (fun _ => hSt) (fun h => absurd rfl h)) (h1.next undef (Or.inr ⟨hwa', rfl⟩))
      · -- a late one
        have hs0 : 0 < sts.length := by have := hv.le; omega
        have h00 : sts[0]? = some sts[0] := List.getElem?_eq_getElem hs0
        have hm0 : sts[0] ∈ sts.take k := List.mem_of_getElem? (i := 0) (by rw [List.getElem?_take_of_lt (by omega)]; exact h00)
        obtain ⟨_, _, hdone0⟩ := hv.done _ hm0
        have hlb := hlate _ h00
        unfold lateB at hlb
        have hlb := List.all_eq_true.1 hlb j (List.mem_range.2 hjn)
        obtain ⟨_, o0, ho0, _⟩ := hst2 _ (List.mem_of_getElem? h00)
        rw [hoj', ho0] at hlb
        simp only [hs] at hlb
        have hno : waits md o0 j = false := by
          cases hb : waits md o0 j with
          | false => rfl
          | true =>
            have := waits_ok hb (hdone0 o0 ho0)
            rw [hlf] at this
            cases this
        rw [hno, Bool.false_or] at hlb
        split at hlb
        case h_2 => cases hlb
        rename_i l hl
        obtain ⟨u, hu⟩ := h1.some
        obtain ⟨listed', a', hLa, hsame⟩ := headSoft_end f _ _ (h1.next u hu)
        have hE := hF _ _ hLa
        have hsm : ∀ i, Wr ops listed i → evS ops a' i = evS ops a i := fun i hi => evS_same fun t' x' y' hs' =>
          ⟨evOp fun s hx => by
            have hw := hi t' x' y' hs' s (Or.inl hx)
            rw [hsame s (by
              intro k' ok hk' hd'
              rw [getNz] at hk'
              cases hb : ops.toArray[k']? with
              | none => rw [hb] at hk'; cases hk'
              | some ob => rw [hb] at hk'; cases hk'; rw [nz_dst] at hd'; exact hw.set j k' ob hb hd'), put_getD_ne a oj.dst u s (hnd' s hw)],
           evOp fun s hx => by
            have hw := hi t' x' y' hs' s (Or.inr hx)
            rw [hsame s (by
              intro k' ok hk' hd'
              rw [getNz] at hk'
              cases hb : ops.toArray[k']? with
              | none => rw [hb] at hk'; cases hk'
              | some ob => rw [hb] at hk'; cases hk'; rw [nz_dst] at hd'; exact hw.set j k' ob hb hd'), put_getD_ne a oj.dst u s (hnd' s hw)]⟩
        obtain ⟨w1, hw1, hr1⟩ := hv.world
        have heq : (sts.take k).map (evS ops a') = (sts.take k).map (evS ops a) := List.map_congr_left fun i hi => hsm i (hv.done i hi).2.1
        obtain ⟨v, m, hrun, hrun1⟩ := hE.late j oj l hjn hoj' hs hl ⟨_, _, h00, ho0, hno⟩ k w1 w hw1 (by rw [heq]; exact hr1)
        have hrm := hE.comm k w1 w m hw1 (by rw [heq]; exact hr1)
        rw [heq] at hrm
        have hcong := late_congr hl (e := a.eval) (e' := a'.eval) (fun x hx => (evOp fun s hxs => by
          subst hxs
          have hw := wrB_ok hlb hedge hx
          rw [hsame s (by
            intro k' ok hk' hd'
            rw [getNz] at hk'
            cases hb : ops.toArray[k']? with
            | none => rw [hb] at hk'; cases hk'
            | some ob => rw [hb] at hk'; cases hk'; rw [nz_dst] at hd'; exact hw.set j k' ob hb hd'), put_getD_ne a oj.dst u s (hnd' s hw)]).symm)
        obtain ⟨hg, hex⟩ := hcong
        have hwa : Region.wanted oj (yielded ops.toArray a.tmps) = true := by simp [Region.wanted, hg]
        rw [if_pos hwa]
        refine Or.inl ?_
        unfold Oper.wp
        rw [hex, hrun]
        have hnx := h1.next v (Or.inl ⟨by rw [hyd]; exact hwa, w1, hw1, by rw [hex, hrun1]; rfl⟩)
        exact headM hsts hst2 hch hnd hop hlate hL hF f _ _ (w.drewN m) k (by simp [hsz]) (next v (w.drewN m) (fun h => absurd h hk) (fun _ => ⟨w1.drewN m, hw1.drewN m, hrm⟩)) hnx

theorem wp_region_soft_stores {id : Nat} {Q : Exit → Act → World → Prop} {a : Act} {w : World} {sts : List Nat} (hW : Stays W w) (S : Option Tmp → Value → Prop)
    (hsts : ∀ i o, ops[i]? = some o → i < n → (isSt o).isSome = true → i ∈ sts) (hst2 : ∀ i ∈ sts, i < n ∧ ∃ o, ops[i]? = some o ∧ (isSt o).isSome = true) (hch : chainB .any ops sts = true) (hnd : sts.Nodup)
    (hop : ∀ i ∈ sts, operB .any ops i = true) (hlate : ∀ i0, sts[0]? = some i0 → lateB .any ops n i0 = true)
    (hm : P.follows .mixedOrders = true) (hB : Region.lexTailB .any (ops.map nz).toArray n = true)
    (h : wpSoft P (ops.map nz).toArray W S [] (fun a' => MEnd P W .any ops sts n a' ∧ ∀ w1 w', Stays W w1 → Runs P (sts.map (evS ops a')) w1 w' → wpList P ops.toArray Q (ops.drop n) a' w') ((ops.map nz).take n) a) : (Code.region id ops.toArray true).wp P Q a w := by
  simp only [Region.lexTailB, Bool.and_eq_true, decide_eq_true_eq] at hB
  obtain ⟨⟨⟨⟨hsel, hn⟩, hs⟩, hc⟩, hlex⟩ := hB
  have hn' : n < ops.length := by simpa using hn
  have htl : ((ops.map nz).take n).length = n := by simp; omega
  have hdl : (ops.drop n).length = ops.length - n := by simp
  have hsz : (ops.map nz).toArray.size = ops.length := by simp
  have inv0 : HeadInv .any (ops.map nz).toArray n (Array.replicate (ops.map nz).toArray.size false) :=
    ⟨by simp, fun j oj _ hl => (by rw [getD_replicate_false] at hl; cases hl), fun t _ ht => getD_in (by simpa using ht) (getD_replicate_false _ _)⟩
  have H := headSoft_lex2 (W := W) (S := S) (A := []) (md := .any) (g := ops.length - n) hsel hs hc hn ((ops.map nz).take n) 0 _ a (fun j hj => by
    have hj' : j < n := by rw [htl] at hj; exact hj
    simp [hj']) (by simpa using htl) inv0 (by simp) (fun j hj => by omega) (by rw [htl, ← hsz]; exact hlex) h
  refine wp_region_any hm ?_
  have := headM (W := W) (S := S) (md := .any) (Q' := Q) (g := ops.length - n) hsts (fun i hi => ⟨by have := (hst2 i hi).1; omega, (hst2 i hi).2⟩) hch hnd hop hlate (fun listed a' w' k hv hL => by
    have hk : k = sts.length := by
      rcases Nat.lt_or_ge k sts.length with hlt | hge
      · exfalso
        have hmem : sts[k] ∈ sts.drop k := List.mem_of_getElem? (i := 0) (by simp [hlt])
        have h1 := hv.todo _ hmem
        have h2 := hL.1 sts[k] (hst2 _ (List.getElem_mem hlt)).1
        rw [h1] at h2
        cases h2
      · have := hv.le; omega
    subst hk
    obtain ⟨w1, hw1, hr1⟩ := hv.world
    rw [List.take_length] at hr1
    have hq := hL.2.2.2 w1 w' hw1 hr1
    have hseq : Region.seqB .any ops.toArray (ops.length - n) n listed = true := seqB_nz hL.2.1
    have := wpAny_of_seq (md := .any) (Q' := Q) (ops.drop n) n listed a' w' (fun j => by simp [List.getElem?_drop]) (by rw [hdl]; exact hseq) hq
    rwa [hdl] at this) (fun listed a' hL => hL.2.2.1) _ _ _ _ 0 (by simp) ⟨Nat.zero_le _, fun i hi => by simp at hi, fun i _ => getD_replicate_false _ _, w.drewN 1, hW.drewN 1, rfl⟩ H
  rw [htl, show n + (ops.length - n) = ops.length by omega] at this
  rw [hsz] at this
  have e : ops.toArray.size = ops.length := by simp
  rw [e]
  exact this
end
end Go.Proofs.Ytcopccniijkceaa.K
