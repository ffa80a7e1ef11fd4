/- A region that draws its order, walked once softly, where one operation stores into the block that the region makes. -/
import Derived.Test.YtcopccniijkceaaSk
import Derived.Test.YtcopccniijkceaaY4
namespace Go.Proofs.Ytcopccniijkceaa.K
open Go Go.RowKit Go.Proofs.Ytcopccniijkceaa
set_option linter.unusedVariables false
set_option linter.unusedSimpArgs false

section
variable {P : Program} {ops : Array Oper} {md : Region.Mode} {W : World} {S : Option Tmp → Value → Prop} {A : List (Tmp × Array Value × TypeId)}

theorem soft_to_wp2 {o : Oper} {a : Act} {K : Act → Prop} {K' : Act → World → Prop} {Q' : Exit → Act → World → Prop} {w : World} (hw : Stays W w) (hK : ∀ u w', Stays w w' → K (a.put o.dst u) → K' (a.put o.dst u) w')
    (hwa : Region.wanted o (yielded ops a.tmps) = true) (h : Soft P ops W S A o K a) : o.wp P a w K' Q' := by
  have h2 : ∀ u, oneOf (S o.dst) u ((execOp a.eval o).run P w) → K (a.put o.dst u) := fun u hu => h.next u (Or.inl ⟨hwa, w, hw, hu⟩)
  have h1 := h.ok hwa w hw
  unfold Oper.wp
  revert h1 h2
  generalize (execOp a.eval o).run P w = r
  intro h2 h1
  match r, h1, h2 with
  | .ok (.value x) w', h1, h2 => exact hK _ _ h1 (h2 x rfl)
  | .ok .skip w', h1, h2 => exact hK _ _ h1 (h2 undef rfl)
  | .ok (.enter f args) w', ⟨e, hc⟩, h2 =>
    subst e
    exact hc.mono fun e w'' ⟨v, he, hv, hw''⟩ => by subst he; exact hK _ _ hw'' (h2 v hv)

def noop (o : Oper) : Oper := { o with op := .move (.const undef), dst := none }

theorem ready_eq {i : Nat} {si : Oper} (hi : ops[i]? = some si) (listed : Array Bool) : Region.ready md (ops.setIfInBounds i (noop si)) listed = Region.ready md ops listed := by
  have hlt : i < ops.size := (Array.getElem?_eq_some_iff.1 hi).1
  unfold Region.ready
  rw [Array.size_setIfInBounds]
  refine List.filter_congr fun j _ => ?_
  by_cases hj : j = i
  · subst hj
    rw [Array.getElem?_setIfInBounds_self_of_lt hlt, hi]
    rfl
  · rw [Array.getElem?_setIfInBounds_ne (Ne.symm hj)]

theorem ready_noop {i : Nat} {si : Oper} (hi : ops[i]? = some si) {listed : Array Bool} {j : Nat} : j ∈ Region.ready md (ops.setIfInBounds i (noop si)) listed ↔ j ∈ Region.ready md ops listed := by rw [ready_eq hi]

theorem seqB_noop {i : Nat} {si : Oper} (hi : ops[i]? = some si) : ∀ {g k : Nat} {listed : Array Bool}, Region.seqB md (ops.setIfInBounds i (noop si)) g k listed = true → Region.seqB md ops g k listed = true
  | 0, k, listed, h => by unfold Region.seqB at h ⊢; rw [ready_eq hi] at h; exact h
  | g + 1, k, listed, h => by
    unfold Region.seqB at h ⊢
    rw [ready_eq hi] at h
    simp only [Bool.and_eq_true] at h ⊢
    exact ⟨h.1, seqB_noop hi h.2⟩

theorem yielded_noop {i : Nat} {si : Oper} (hi : ops[i]? = some si) (hd : si.dst = none) (tmps : Array Value) : yielded (ops.setIfInBounds i (noop si)) tmps = yielded ops tmps := by
  have hlt : i < ops.size := (Array.getElem?_eq_some_iff.1 hi).1
  funext j
  unfold yielded
  by_cases hj : j = i
  · subst hj
    rw [Array.getElem?_setIfInBounds_self_of_lt hlt, hi]
    simp only [Option.bind_some, noop, hd]
  · rw [Array.getElem?_setIfInBounds_ne (Ne.symm hj)]

/-- What writes t has been listed. -/
def Wrote (ops : Array Oper) (listed : Array Bool) (t : Tmp) : Prop := ∀ j oj, ops[j]? = some oj → oj.dst = some t → listed.getD j true = true

theorem Wrote.set {listed : Array Bool} {t : Tmp} (h : Wrote ops listed t) (i : Nat) : Wrote ops (listed.setIfInBounds i true) t := fun j oj hj hd => by
  have := h j oj hj hd
  by_cases hji : i = j
  · subst hji
    by_cases hl : i < listed.size
    · simp [Array.getD_eq_getD_getElem?, hl]
    · rw [Array.setIfInBounds_eq_of_size_le (by omega)]; exact this
  · rw [getD_set_ne true hji]; exact this

/-- A way to the end, on which what has been written stays. -/
theorem headSoft_end {n : Nat} {L : Array Bool → Act → Prop} : ∀ (f : Nat) (listed : Array Bool) (a : Act), headSoft P md ops W S A n L f listed a →
    ∃ listed' a', L listed' a' ∧ ∀ t, Wrote ops listed t → a'.tmps.getD t undef = a.tmps.getD t undef
  | 0, listed, a, h => ⟨listed, a, h, fun _ _ => rfl⟩
  | f + 1, listed, a, h => by
    obtain ⟨hne, hall⟩ := h
    obtain ⟨i, hi⟩ := List.exists_mem_of_ne_nil _ hne
    have h1 := (hall i hi).2
    obtain ⟨hun, oi, hoi, _⟩ := mem_ready.1 hi
    unfold softAt at h1
    rw [hoi] at h1
    obtain ⟨u, hu⟩ := h1.some
    obtain ⟨listed', a', hL, hst⟩ := headSoft_end f _ _ (h1.next u hu)
    refine ⟨listed', a', hL, fun t ht => ?_⟩
    rw [hst t (ht.set i)]
    refine put_getD_ne a oi.dst u t fun e => ?_
    have := ht i oi hoi e
    rw [hun] at this
    cases this

theorem headSoft_lex2 {n g : Nat} {Lq : Act → Prop} (hsel : Region.noSelect ops = true) (hs : Region.sinkB md ops n = true) (hc : Region.chainB md ops n = true) (hn : n < ops.size) :
    ∀ (l : List Oper) (k : Nat) (listed : Array Bool) (a : Act), (∀ j, j < l.length → l[j]? = ops[k + j]?) → k + l.length = n → HeadInv md ops n listed → listed.size = ops.size → (∀ j, j < k → listed.getD j false = true) →
    Region.lexHead md ops g l.length k listed = true → wpSoft P ops W S A Lq l a →
    headSoft P md ops W S A n (fun listed' a' => (∀ j, j < n → listed'.getD j false = true) ∧ Region.seqB md ops g n listed' = true ∧ Lq a') l.length listed a
  | [], k, listed, a, _, hk, _, hsz, hall, hB, h => by
    have : k = n := by simpa using hk
    subst this
    exact ⟨hall, by simpa [Region.lexHead] using hB, h⟩
  | o :: l, k, listed, a, hl, hk, inv, hsz, hall, hB, h => by
    have h0 : ops[k]? = some o := by simpa using (hl 0 (by simp)).symm
    simp only [List.length_cons, Region.lexHead, Bool.and_eq_true] at hB
    obtain ⟨⟨hr, hf⟩, hB'⟩ := hB
    have hkn : k < n := by simp only [List.length_cons] at hk; omega
    have hr' : k ∈ Region.ready md ops listed := by simpa using hr
    refine headSoft_first h0 (Region.noSelect_spec hsel) hs hc hn hkn (fun listed' a' hL => seqB_ready hL.2.1) l.length listed a inv (Region.free_spec h0 hf) hr' ?_
    refine Soft.mono (fun a' h' => headSoft_lex2 hsel hs hc hn l (k + 1) _ a' (fun j hj => by have := hl (j + 1) (by simp; omega); simpa [Nat.add_assoc, Nat.add_comm 1 j] using this) (by simp only [List.length_cons] at hk; omega) (inv.set hr' hkn) (by simp [hsz]) ?_ hB' h') h
    intro j hj
    by_cases hjk : k = j
    · subst hjk
      have : k < listed.size := by omega
      simp [Array.getD_eq_getD_getElem?, this]
    · rw [getD_set_ne false hjk]
      exact hall j (by omega)

end

section
variable {P : Program} {ops : Array Oper} {md : Region.Mode} {W : World} {S : Option Tmp → Value → Prop}

/-- What the store needs. -/
def Stored (P : Program) (W : World) (d : Tmp) (y : Operand) (cs0 : Array Value) (ty : TypeId) (a : Act) : Prop :=
  ∃ p, a.tmps.getD d undef = .pointer (some ⟨p, 0, none⟩) ∧ W.heap.size ≤ p ∧ (a.eval y).cells.size = cs0.size ∧ (∀ c ∈ (a.eval y).cells.toList, c.oneCell' = true) ∧ (P.info? ty).map (·.size) = some (a.eval y).cells.size

/-- Before the store and behind it. -/
structure SInv (ops : Array Oper) (W : World) (i0 : Nat) (d : Tmp) (y : Operand) (cs0 : Array Value) (t : TypeId) (listed : Array Bool) (a : Act) (w : World) : Prop where
  stays : Stays W w
  pre : listed.getD i0 false = false → Keeps W [(d, cs0, t)] a w
  post : listed.getD i0 false = true → (∃ p, a.tmps.getD d undef = .pointer (some ⟨p, 0, none⟩) ∧ W.heap.size ≤ p ∧ w.heap[p]? = some (.cells (a.eval y).cells t (0, 0))) ∧ Wrote ops listed d ∧ ∀ s, y = .tmp s → Wrote ops listed s

def tmpIs : Operand → Tmp → Bool
  | .tmp s, t => Nat.beq t s
  | _, _ => false

/-- Each operation that writes what the store reads comes before the store. -/
def stB (md : Region.Mode) (ops : Array Oper) (si : Oper) (d : Tmp) (y : Operand) : Bool :=
  (List.range ops.size).all fun j => match ops[j]? with
    | some oj => match oj.dst with
      | some t => if Nat.beq t d || tmpIs y t then si.after.toList.any fun e => Region.binds md e && Nat.beq e.on j else true
      | none => true
    | none => true

theorem stB_ok {si : Oper} {d : Tmp} {y : Operand} (h : stB md ops si d y = true) {listed : Array Bool} (hr : ∀ e ∈ si.after, Region.binds md e = true → listed.getD e.on false = true) {t : Tmp} (ht : t = d ∨ y = .tmp t) : Wrote ops listed t := by
  intro j oj hj hd
  have hlt : j < ops.size := (Array.getElem?_eq_some_iff.1 hj).1
  have := List.all_eq_true.1 h j (List.mem_range.2 hlt)
  rw [hj] at this
  simp only [hd] at this
  have hc : (Nat.beq t d || tmpIs y t) = true := by
    rcases ht with rfl | rfl
    · rw [Nat.beq_refl]; rfl
    · simp [tmpIs]
  rw [if_pos hc] at this
  obtain ⟨e, he, hb⟩ := List.any_eq_true.1 this
  simp only [Bool.and_eq_true] at hb
  have h1 := hr e (by simpa using he) hb.1
  rw [Nat.eq_of_beq_eq_true hb.2] at h1
  cases hl : listed.getD j true with
  | true => rfl
  | false =>
    have := getD_both hl
    rw [h1] at this
    cases this

theorem setCells_full {w : World} {p : Nat} {cs cs0 : Array Value} {t : TypeId} (hg : w.heap[p]? = some (.cells cs0 t (0, 0))) (hs : cs.size = cs0.size) (hW : Stays W w) (hp : W.heap.size ≤ p) :
    Stays W (w.setCells p 0 cs.toList) ∧ (w.setCells p 0 cs.toList).heap[p]? = some (.cells cs t (0, 0)) := by
  obtain ⟨a1, a2, a3, a4, a5, a6⟩ := setCells_heap p t cs.toList 0 cs0 w hg
  refine ⟨Below.trans hW ⟨a4, a5, a6, by omega, fun k hk => a2 k (by omega)⟩, ?_⟩
  rw [a1]
  congr 2
  apply Array.toList_inj.1
  rw [splice_list _ _ _ (by simp; omega)]
  simp
  omega

theorem headStore_to_wp {n g i0 : Nat} {si : Oper} {d : Tmp} {y : Operand} {ty t : TypeId} {cs0 : Array Value} (hi : ops[i0]? = some si) (hop : si.op = .store ty (.tmp d) y) (hd : si.dst = none) (hg : si.guard = none) (hst : stB md ops si d y = true)
    {L : Array Bool → Act → Prop} {Q' : Exit → Act → World → Prop} (hL : ∀ listed a w, SInv ops W i0 d y cs0 t listed a w → L listed a → wpAny P md ops Q' g listed a w) (hF : ∀ listed a, L listed a → Stored P W d y cs0 ty a) :
    ∀ (f : Nat) (listed : Array Bool) (a : Act) (w : World), listed.size = ops.size → SInv ops W i0 d y cs0 t listed a w → headSoft P md (ops.setIfInBounds i0 (noop si)) W S [(d, cs0, t)] n L f listed a → wpAny P md ops Q' (f + g) listed a w
  | 0, listed, a, w, hsz, hv, h => by rw [Nat.zero_add]; exact hL _ _ _ hv h
  | f + 1, listed, a, w, hsz, hv, h => by
    have hlt : i0 < ops.size := (Array.getElem?_eq_some_iff.1 hi).1
    rw [show f + 1 + g = (f + g) + 1 by omega]
    obtain ⟨hne, hall⟩ := h
    refine ⟨fun h0 => ?_, fun j hj => ?_⟩
    · obtain ⟨j, hj⟩ := List.exists_mem_of_ne_nil _ hne
      have := (ready_noop hi).1 hj
      rw [h0] at this
      cases this
    · have h1 := (hall j ((ready_noop hi).2 hj)).2
      obtain ⟨hun, oj, hoj, hedge⟩ := mem_ready.1 hj
      unfold softAt at h1
      unfold wpOp
      by_cases hji : j = i0
      · subst hji
        rw [Array.getElem?_setIfInBounds_self_of_lt hlt] at h1
        rw [hi] at hoj
        cases hoj
        rw [hi]
        simp only
        rw [if_pos (by simp [Region.wanted, hg])]
        refine Or.inl ?_
        obtain ⟨u, hu⟩ := h1.some
        have h2 : headSoft P md (ops.setIfInBounds j (noop si)) W S [(d, cs0, t)] n L f (listed.setIfInBounds j true) a := h1.next u hu
        have hw0 : ∀ t', t' = d ∨ y = .tmp t' → Wrote ops listed t' := fun t' ht' => stB_ok hst hedge ht'
        have hw1 : ∀ t', Wrote ops listed t' → Wrote (ops.setIfInBounds j (noop si)) (listed.setIfInBounds j true) t' := by
          intro t' h k ok hk hd'
          by_cases hkj : j = k
          · subst hkj
            rw [Array.getElem?_setIfInBounds_self_of_lt hlt] at hk
            cases hk
            cases hd'
          · rw [Array.getElem?_setIfInBounds_ne hkj] at hk
            exact (h.set j) k ok hk hd'
        obtain ⟨listed', a', hLa, hsame⟩ := headSoft_end f _ _ h2
        obtain ⟨p, hp, hpW, hsz', hone, hinfo⟩ := hF _ _ hLa
        have hpd : a.tmps.getD d undef = .pointer (some ⟨p, 0, none⟩) := by rw [← hsame d (hw1 d (hw0 d (Or.inl rfl)))]; exact hp
        have hey : a'.eval y = a.eval y := by
          cases y with
          | tmp s => exact hsame s (hw1 s (hw0 s (Or.inr rfl)))
          | const v => rfl
          | global v => rfl
          | func v => rfl
        rw [hey] at hsz' hone hinfo
        have hlf : listed.getD j false = false := by
          cases hl : listed.getD j false with
          | false => rfl
          | true =>
            have := getD_both hun
            rw [hl] at this
            cases this
        have hk := hv.pre hlf
        have hblk : w.heap[p]? = some (.cells cs0 t (0, 0)) := hk.2 (d, cs0, t) (by simp) p hpd
        have hth : w.there p 0 (a.eval y).cells.size := fun q hq => by
          have e : w.cell? ⟨p, 0 + q, none⟩ = cs0[0 + q]? := cell_of_row w p (0 + q) cs0 t (0, 0) hblk
          refine ⟨?_, frozen_of_row w p (0 + q) cs0 t hblk⟩
          rw [e, Nat.zero_add]
          have : q < cs0.size := by omega
          simp [this]
        have hrun := run_storeVar_any (P := P) (ty := ty) hth hinfo hone
        obtain ⟨s1, s2⟩ := setCells_full hblk hsz' hv.stays hpW
        have hev : a.eval (.tmp d) = .pointer (some ⟨p, 0, none⟩) := hpd
        unfold Oper.wp
        simp [execOp, hop, hev, hrun, Result.andThen]
        have hput : a.put si.dst undef = a := by rw [hd]; rfl
        have hlj : (listed.setIfInBounds j true).getD j false = true := by
          have : j < listed.size := by omega
          simp [Array.getD_eq_getD_getElem?, this]
        have fin : wpAny P md ops Q' (f + g) (listed.setIfInBounds j true) a (w.setCells p 0 (a.eval y).cells.toList) := headStore_to_wp hi hop hd hg hst hL hF f _ a _ (by simp [hsz])
          ⟨s1, fun e => (by rw [hlj] at e; cases e), fun _ => ⟨⟨p, hpd, hpW, s2⟩, (hw0 d (Or.inl rfl)).set j, fun s hs => (hw0 s (Or.inr hs)).set j⟩⟩ h2
        have fin' : (fun a' => wpAny P md ops Q' (f + g) (listed.setIfInBounds j true) a' (w.setCells p 0 (a.eval y).cells.toList)) (a.put si.dst undef) := by rw [hput]; exact fin
        exact fin'
      · rw [Array.getElem?_setIfInBounds_ne (Ne.symm hji), hoj] at h1
        rw [hoj]
        simp only
        have hset : (listed.setIfInBounds j true).getD i0 false = listed.getD i0 false := getD_set_ne false hji
        have hy0 := yielded_noop hi hd a.tmps
        have next : ∀ u w', Stays w w' → (listed.getD i0 false = false → Keeps W [(d, cs0, t)] (a.put oj.dst u) w') → SInv ops W i0 d y cs0 t (listed.setIfInBounds j true) (a.put oj.dst u) w' := by
          intro u w' hww hpre
          refine ⟨hv.stays.trans hww, fun e => hpre (by rw [hset] at e; exact e), fun e => ?_⟩
          rw [hset] at e
          obtain ⟨⟨p, hp, hpW, hblk⟩, hwd, hwy⟩ := hv.post e
          have nd : ∀ t', Wrote ops listed t' → oj.dst ≠ some t' := fun t' ht' e' => by
            have := ht' j oj hoj e'
            rw [hun] at this
            cases this
          have hey : (a.put oj.dst u).eval y = a.eval y := by
            cases y with
            | tmp s => exact put_getD_ne a oj.dst u s (nd s (hwy s rfl))
            | const v => rfl
            | global v => rfl
            | func v => rfl
          refine ⟨⟨p, ?_, hpW, ?_⟩, hwd.set j, fun s hs => (hwy s hs).set j⟩
          · rw [put_getD_ne a oj.dst u d (nd d hwd)]; exact hp
          · rw [hey]; exact hww.heap (Array.getElem?_eq_some_iff.1 hblk).1 hblk
        split
        · rename_i hwa
          have hwa' : Region.wanted oj (yielded (ops.setIfInBounds i0 (noop si)) a.tmps) = true := by rw [hy0]; exact hwa
          refine Or.inl ?_
          cases hl : listed.getD i0 false with
          | false =>
            refine soft_to_wp (hv.pre hl) (K' := fun a' w' => wpAny P md ops Q' (f + g) (listed.setIfInBounds j true) a' w') (fun a' w' hw' h' => ?_) hwa' h1
            refine headStore_to_wp hi hop hd hg hst hL hF f _ a' w' (by simp [hsz]) ⟨hw'.1, fun _ => hw', fun e => ?_⟩ h'
            rw [hset, hl] at e
            cases e
          | true =>
            refine soft_to_wp2 hv.stays (K' := fun a' w' => wpAny P md ops Q' (f + g) (listed.setIfInBounds j true) a' w') (fun u w' hww h' => ?_) hwa' h1
            exact headStore_to_wp hi hop hd hg hst hL hF f _ _ w' (by simp [hsz]) (next u w' hww (fun e => by rw [hl] at e; cases e)) h'
        · rename_i hwa
          have hwa' : Region.wanted oj (yielded (ops.setIfInBounds i0 (noop si)) a.tmps) = false := by rw [hy0]; simpa using hwa
          have hnd : ∀ e ∈ [(d, cs0, t)], oj.dst ≠ some e.1 := fun e he hd' => by
            have := (h1.makes e he hd').1
            rw [hwa'] at this
            cases this
          refine headStore_to_wp hi hop hd hg hst hL hF f _ _ w (by simp [hsz]) (next undef w (Stays.refl w) (fun e => (hv.pre e).put hnd)) (h1.next undef (Or.inr ⟨hwa', rfl⟩))

/-- Behind the region: the block that it made holds what was stored. -/
def KeepsS (W : World) (d : Tmp) (y : Operand) (t : TypeId) (a : Act) (w : World) : Prop :=
  Stays W w ∧ ∃ p, a.tmps.getD d undef = .pointer (some ⟨p, 0, none⟩) ∧ W.heap.size ≤ p ∧ w.heap[p]? = some (.cells (a.eval y).cells t (0, 0))

theorem wp_region_soft_store {W : World} {id : Nat} {Q : Exit → Act → World → Prop} {a : Act} {w : World} {l : List Oper} (n i0 : Nat) {si : Oper} {d : Tmp} {y : Operand} {ty t : TypeId} {cs0 : Array Value} (hW : Stays W w) (S : Option Tmp → Value → Prop)
    (hi : l[i0]? = some si) (hin : i0 < n) (hop : si.op = .store ty (.tmp d) y) (hd : si.dst = none) (hg : si.guard = none) (hst : stB .any l.toArray si d y = true)
    (hm : P.follows .mixedOrders = true) (hB : Region.lexTailB .any (l.set i0 (noop si)).toArray n = true) (hA : ∀ p, a.tmps.getD d undef ≠ .pointer p)
    (h : wpSoft P (l.set i0 (noop si)).toArray W S [(d, cs0, t)] (fun a' => Stored P W d y cs0 ty a' ∧ ∀ w', KeepsS W d y t a' w' → wpList P l.toArray Q (l.drop n) a' w') ((l.set i0 (noop si)).take n) a) : (Code.region id l.toArray true).wp P Q a w := by
  simp only [Region.lexTailB, Bool.and_eq_true, decide_eq_true_eq] at hB
  obtain ⟨⟨⟨⟨hsel, hn⟩, hs⟩, hc⟩, hlex⟩ := hB
  have hi' : l.toArray[i0]? = some si := by simpa using hi
  have hset : l.toArray.setIfInBounds i0 (noop si) = (l.set i0 (noop si)).toArray := by simp
  have hlen : (l.set i0 (noop si)).length = l.length := by simp
  have hn' : n < l.length := by simpa using hn
  have htl : ((l.set i0 (noop si)).take n).length = n := by simp; omega
  have hdl : (l.drop n).length = l.toArray.size - n := by simp
  have hsz : (l.set i0 (noop si)).toArray.size = l.toArray.size := by simp
  have inv0 : HeadInv .any (l.set i0 (noop si)).toArray n (Array.replicate (l.set i0 (noop si)).toArray.size false) :=
    ⟨by simp, fun j oj _ hl => (by rw [getD_replicate_false] at hl; cases hl), fun t _ ht => getD_in (by simpa using ht) (getD_replicate_false _ _)⟩
  have H := headSoft_lex2 (W := W) (S := S) (A := [(d, cs0, t)]) (md := .any) (g := l.toArray.size - n) hsel hs hc hn ((l.set i0 (noop si)).take n) 0 _ a (fun j hj => by
    have hj' : j < n := by rw [htl] at hj; exact hj
    simp [hj']) (by simpa using htl) inv0 (by simp) (fun j hj => by omega) (by rw [htl, ← hsz]; exact hlex) h
  refine wp_region_any hm ?_
  rw [← hset] at H
  have := headStore_to_wp (W := W) (S := S) (md := .any) (Q' := Q) (g := l.toArray.size - n) hi' hop hd hg hst (fun listed a' w' hv hL => by
    have hdone := hL.1 i0 hin
    obtain ⟨⟨p, hp, hpW, hblk⟩, _⟩ := hv.post hdone
    have hq := hL.2.2.2 w' ⟨hv.stays, p, hp, hpW, hblk⟩
    have hseq : Region.seqB .any l.toArray (l.toArray.size - n) n listed = true := by
      refine seqB_noop hi' ?_
      exact hL.2.1
    have := wpAny_of_seq (md := .any) (Q' := Q) (l.drop n) n listed a' w' (fun j => by simp [List.getElem?_drop]) (by rw [hdl]; exact hseq) hq
    rwa [hdl] at this) (fun listed a' hL => hL.2.2.1) _ _ _ _ (by simp) ⟨hW.drewN 1, fun _ => ⟨hW.drewN 1, fun e he p hp => by
      simp at he
      subst he
      exact absurd hp (hA _)⟩, fun e => by rw [getD_replicate_false] at e; cases e⟩ H
  have hsz2 : (l.toArray.setIfInBounds i0 (noop si)).size = l.toArray.size := Array.size_setIfInBounds ..
  rw [htl, show n + (l.toArray.size - n) = l.toArray.size by omega] at this
  rw [hset] at this
  rw [hsz] at this
  exact this

end
end Go.Proofs.Ytcopccniijkceaa.K
