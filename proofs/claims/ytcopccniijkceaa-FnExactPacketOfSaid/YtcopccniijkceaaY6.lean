/- A symbolic walk: regions that draw their order, whole. No condition. -/
import Derived.Test.YtcopccniijkceaaY5
namespace Go.Proofs.Ytcopccniijkceaa
open Go Go.RowKit
set_option linter.unusedVariables false
set_option linter.unusedSimpArgs false

theorem K.wpSoft_mono {P : Program} {ops : Array Oper} {W : World} {S : Option Tmp → Value → Prop} {A : List (Tmp × Array Value × TypeId)} {Q Q' : Act → Prop} (hq : ∀ a, Q a → Q' a) :
    ∀ (l : List Oper) (a : Act), K.wpSoft P ops W S A Q l a → K.wpSoft P ops W S A Q' l a
  | [], a, h => hq a h
  | o :: l, a, h => K.Soft.mono (fun a' h' => K.wpSoft_mono hq l a' h') h

section
variable {Φ : Syms} {ρ : Nat → NV} {P : Program} {TB : Tab} {cf : CF} {W : World}
variable {ops : Array Oper} {S : Option Tmp → Value → Prop} {A : List (Tmp × Array Value × TypeId)}

theorem softDo_heap {o : Oper} {s x : Sft} (h : (softDo TB cf o s).holds Φ ρ fun y => y = x) : x.st.heap = s.st.heap := by
  unfold softDo at h
  split at h
  · split at h
    · cases (h : _ = x); exact put_heap _ _ _
    · exact h.elim
  · exact h.elim
  · exact h.elim
  · exact h.elim
  · split at h
    · split at h
      · split at h
        · obtain ⟨r, hr, _⟩ := DT.holds_leaf _ (DT.holds_bind _ h)
          split at hr
          · cases (hr : _ = x); rfl
          · exact hr.elim
        · exact h.elim
      · split at h
        · obtain ⟨r, hr, _⟩ := DT.holds_leaf _ (DT.holds_bind _ h)
          split at hr
          · cases (hr : _ = x); rfl
          · exact hr.elim
        · exact h.elim
      · exact h.elim
    · split at h
      · cases (h : _ = x); exact put_heap _ _ _
      · exact h.elim
    · exact h.elim
  · split at h
    · obtain ⟨_, h⟩ := DT.holds_mks _ _ h
      obtain ⟨_, h⟩ := reqs_ok _ h
      cases (h : _ = x); exact put_heap _ _ _
    · exact h.elim

theorem softOp_heap {o : Oper} {s x : Sft} (h : (softOp TB cf ops o s).holds Φ ρ fun y => y = x) : x.st.heap = s.st.heap := by
  unfold softOp at h
  split at h
  · exact softDo_heap h
  · split at h
    · split at h
      · exact softDo_heap h
      · cases (h : _ = x); exact put_heap _ _ _
    · cases (h : _ = x); exact put_heap _ _ _
    · obtain ⟨b, fs, h⟩ := splitOn_leaf h
      split at h
      · exact (softDo_heap h).trans rfl
      · cases (h : _ = x); exact put_heap _ _ _
    · exact h.elim

theorem softOp_ok (hT : TabOK P TB) (hcf : CFok P Φ ρ cf) {o : Oper} {a : Act} {s x : Sft} {β β0 : List Nat} {Kp : Act → Prop}
    (hA1 : ∀ e ∈ A, ∀ d t, allocOf o = some (d, t) → ∃ ti, TB t = some ti ∧ e = (d, ti.zero.cells, t)) (hA2 : allocOf o = none → ∀ e ∈ A, o.dst ≠ some e.1)
    (hA3 : allocOf o ≠ none → A ≠ [])
    (hone : allocOf o ≠ none → β = β0) (hl0 : At0 ρ W β0 s.st.heap) (hβ : β.take s.st.heap.length = β0)
    (H : SoftM ρ W β s.st a) (h : (softOp TB cf ops o s).holds Φ ρ fun y => y = x) (hS : Fits ρ S x.log)
    (hK : ∀ a' β', (β' = β ∨ (allocOf o ≠ none ∧ ∃ p, W.heap.size ≤ p ∧ β' = β0 ++ [p])) → SoftM ρ W β' x.st a' → Kp a') : SoftK P ops W S A o Kp a := by
  unfold softOp at h
  cases hg : o.guard with
  | none =>
    rw [hg] at h
    exact softDo_ok hT hcf (by simp [Region.wanted, hg]) hA1 hA2 hA3 hone hl0 hβ H h hS hK
  | some jw =>
    obtain ⟨j, want⟩ := jw
    have hal : allocOf o = none := by unfold allocOf; rw [hg]
    rw [hg] at h
    simp only at h
    have hy : ∀ s', guardS ops s.st j = some s' → ∃ v, SVm ρ β s' v ∧ yielded ops a.tmps j = match v with | .bool b => some b | _ => none := by
      intro s' hs
      unfold guardS at hs
      obtain ⟨d, hd, hs⟩ := Option.bind_eq_some_iff.1 hs
      obtain ⟨v, hv, hm⟩ := H.tmps.get? hs
      refine ⟨v, hm, ?_⟩
      have hd' : (ops[j]?).bind (·.dst) = some d := by simpa using hd
      have hv' : a.tmps[d]? = some v := by simpa using hv
      unfold yielded
      rw [hd']
      simp only [Option.bind_some, hv']
      cases v <;> rfl
    have hskip : ∀ st', SoftM ρ W β st' a → (yielded ops a.tmps j ≠ some want) → (⟨st'.put o.dst (.one (.lit undef)), s.log⟩ : Sft) = x → SoftK P ops W S A o Kp a := by
      intro st' H' hne hx
      subst hx
      refine soft_skip (by simpa [Region.wanted, hg] using hne) (hA2 hal) (hK _ β (Or.inl rfl) (H'.put o.dst (s := .one (.lit undef)) (v := undef) rfl))
    split at h
    · rename_i b hb
      obtain ⟨v, hm, hyv⟩ := hy _ hb
      obtain rfl : v = .bool b := hm
      simp only at hyv
      split at h
      · rename_i hbw
        obtain rfl : b = want := by simpa using hbw
        exact softDo_ok hT hcf (by simp [Region.wanted, hg, hyv]) hA1 hA2 hA3 hone hl0 hβ H h hS hK
      · rename_i hbw
        exact hskip _ H (by rw [hyv]; simpa using hbw) h
    · rename_i cs hb
      obtain ⟨v, hm, hyv⟩ := hy _ hb
      obtain rfl : v = .tuple cs := hm
      simp only at hyv
      exact hskip _ H (by rw [hyv]; simp) h
    · rename_i n g hb
      obtain ⟨v, hm, hyv⟩ := hy _ hb
      obtain rfl : v = .bool ((ρ n).gb != g) := hm
      simp only at hyv
      obtain ⟨st', ht, hh, H', h⟩ := splitSoft_ok H h
      split at h
      · rename_i hbw
        have hbw' : ((ρ n).gb != g) = want := by simpa using hbw
        refine softDo_ok (s := ⟨st', s.log⟩) hT hcf (by rw [hbw'] at hyv; simp [Region.wanted, hg, hyv]) hA1 hA2 hA3 hone (by rw [hh]; exact hl0) (by rw [hh]; exact hβ) H' h hS hK
      · rename_i hbw
        have hbw' : ((ρ n).gb != g) ≠ want := by simpa using hbw
        exact hskip _ H' (by simpa [hyv] using hbw') h
    · exact h.elim

theorem softList_ok (hT : TabOK P TB) (hcf : CFok P Φ ρ cf) {x : Sft} {β0 : List Nat} : ∀ (l : List Oper) (s : Sft) (β : List Nat) (a : Act),
    (∀ o ∈ l, ∀ e ∈ A, ∀ d t, allocOf o = some (d, t) → ∃ ti, TB t = some ti ∧ e = (d, ti.zero.cells, t)) → (∀ o ∈ l, allocOf o = none → ∀ e ∈ A, o.dst ≠ some e.1) →
    (∀ o ∈ l, allocOf o ≠ none → A ≠ []) → ((l.filterMap allocOf).length ≤ 1) → ((l.filterMap allocOf) ≠ [] → β = β0) →
    (β = β0 ∨ (A ≠ [] ∧ ∃ p, W.heap.size ≤ p ∧ β = β0 ++ [p])) → At0 ρ W β0 s.st.heap →
    SoftM ρ W β s.st a → ((softList TB cf ops l s).holds Φ ρ fun y => y = x) → Fits ρ S x.log →
    K.wpSoft P ops W S A (fun a' => x.st.heap = s.st.heap ∧ ∃ β', (β' = β0 ∨ (A ≠ [] ∧ ∃ p, W.heap.size ≤ p ∧ β' = β0 ++ [p])) ∧ SoftM ρ W β' x.st a') l a
  | [], s, β, a, _, _, _, _, _, hb, _, H, h, _ => by
    cases (h : s = x)
    exact ⟨rfl, β, hb, H⟩
  | o :: l, s, β, a, h1, h2, h3, h4, h5, hb, hl, H, h, hS => by
    obtain ⟨y, hy, hy'⟩ := DT.holds_leaf _ (DT.holds_bind _ h)
    have hheap := softOp_heap hy'
    refine softOp_ok (x := y) (β0 := β0) hT hcf (h1 o List.mem_cons_self) (h2 o List.mem_cons_self) (h3 o List.mem_cons_self) (fun hne => h5 ?_) hl (by rw [← hl.len]; rcases hb with rfl | ⟨_, p, _, rfl⟩ <;> simp) H hy' (fun d r hdr => hS d r (softList_log l y hy _ hdr)) ?_
    · cases ha : allocOf o with
      | none => exact absurd ha hne
      | some e => rw [List.filterMap_cons_some ha]; simp
    · intro a' β' hβ' H'
      have hrest := softList_ok hT hcf l y β' a' (fun o ho => h1 o (List.mem_cons_of_mem _ ho)) (fun o ho => h2 o (List.mem_cons_of_mem _ ho)) (fun o ho => h3 o (List.mem_cons_of_mem _ ho)) ?_ ?_ ?_ (by rw [hheap]; exact hl) H' hy hS
      · have e : (fun a' => x.st.heap = s.st.heap ∧ ∃ β', (β' = β0 ∨ (A ≠ [] ∧ ∃ p, W.heap.size ≤ p ∧ β' = β0 ++ [p])) ∧ SoftM ρ W β' x.st a') = (fun a' => x.st.heap = y.st.heap ∧ ∃ β', (β' = β0 ∨ (A ≠ [] ∧ ∃ p, W.heap.size ≤ p ∧ β' = β0 ++ [p])) ∧ SoftM ρ W β' x.st a') := by rw [hheap]
        rw [e]
        exact hrest
      · cases ha : allocOf o with
        | none => rw [List.filterMap_cons_none ha] at h4; exact h4
        | some e => rw [List.filterMap_cons_some ha] at h4; simp only [List.length_cons] at h4; omega
      · intro hne
        cases ha : allocOf o with
        | none =>
          rcases hβ' with rfl | ⟨hc, _⟩
          · exact h5 (by rw [List.filterMap_cons_none ha]; exact hne)
          · exact absurd ha hc
        | some e =>
          exfalso
          rw [List.filterMap_cons_some ha] at h4
          simp only [List.length_cons] at h4
          have : (l.filterMap allocOf).length = 0 := by omega
          exact hne (List.eq_nil_of_length_eq_zero this)
      · rcases hβ' with rfl | ⟨hc, p, hp, rfl⟩
        · exact hb
        · exact Or.inr ⟨h3 o List.mem_cons_self hc, p, hp, rfl⟩

theorem nodupB_ok : ∀ {L : List (Nat × SV)}, nodupB (L.map (·.1)) = true → Fits ρ (fun d v => ∀ d' r, d = some d' → (d', r) ∈ L → SVm ρ [] r v) L
  | [], _ => fun d r hdr => by simp at hdr
  | (d0, r0) :: L, h => by
    simp only [List.map_cons, nodupB, Bool.and_eq_true] at h
    have hno : ∀ r, (d0, r) ∉ L := fun r hr => by
      have h1 := h.1
      simp only [Bool.not_eq_true', List.any_eq_false] at h1
      exact h1 d0 (List.mem_map.2 ⟨(d0, r), hr, rfl⟩) (Nat.beq_refl d0)
    have ih := nodupB_ok h.2
    intro d r hdr v
    constructor
    · intro hv; exact hv d r rfl hdr
    · intro hv d' r' he hd'
      cases he
      rcases List.mem_cons.1 hdr with e1 | e1 <;> rcases List.mem_cons.1 hd' with e2 | e2
      · cases e1; cases e2; exact hv
      · cases e1; exact absurd e2 (hno r')
      · cases e2; exact absurd e1 (hno r)
      · exact (ih d r e1 v).2 hv d r' rfl e2

theorem lastN_ok {n : Nat} : ∀ {m : Nat}, lastN ops m = some n → Region.lexTailB .any ops n = true
  | 0, h => by cases h
  | m + 1, h => by
    unfold lastN at h
    split at h
    · rename_i hb; cases h; exact hb
    · exact lastN_ok h

theorem clash_ok {e : Tmp} {l : List Oper} (h : clashB e l = false) : ∀ o ∈ l, allocOf o = none → o.dst ≠ some e := by
  intro o ho hal hd
  have := List.any_eq_false.1 h o ho
  rw [hal, hd] at this
  simp at this

theorem allocs_nil {l : List Oper} (h : l.filterMap allocOf = []) : ∀ o ∈ l, allocOf o = none := List.filterMap_eq_nil_iff.1 h

theorem notPtr {β : List Nat} {s : SV} {v : Value} (h : isPtr s = false) (hm : SVm ρ β s v) : ∀ p, v ≠ .pointer p := by
  intro p hp
  subst hp
  unfold isPtr at h
  split at h
  · cases (show Value.pointer p = _ from hm)
  · obtain ⟨r, e, _⟩ := hm; cases e
  · cases (show Value.pointer p = .bool _ from hm)
  · cases (show Value.pointer p = .int _ _ from hm)
  · cases h

theorem heap_lt {B : W0} {β : List Nat} {h : List Blk} {w : World} (H : HeapM ρ B β h w) : ∀ p ∈ β, p < w.heap.size := fun p hp => by
  obtain ⟨b, hb⟩ := List.getElem?_of_mem hp
  have hb' : b < h.length := by rw [← H.len]; exact (List.getElem?_eq_some_iff.1 hb).1
  obtain ⟨p', cs', h1, h2, _⟩ := H.at_ b h[b] (List.getElem?_eq_getElem hb')
  obtain rfl : p = p' := by rw [hb] at h1; exact Option.some.inj h1
  exact (Array.getElem?_eq_some_iff.1 h2).1

theorem own_push {B : W0} {β : List Nat} {h : List Blk} {w : World} {p : Nat} (H : HeapM ρ B β h w) (hp : B.w.heap.size ≤ p) : ∀ b q, B.ro ≤ b → (β ++ [p])[b]? = some q → B.w.heap.size ≤ q := fun b q hb hq => by
  by_cases hlt : b < β.length
  · rw [List.getElem?_append_left hlt] at hq
    exact H.own b q hb hq
  · rw [List.getElem?_append_right (by omega)] at hq
    have := List.mem_of_getElem? hq
    simp at this
    omega

theorem storeAt_ok {ty : TypeId} {d : Tmp} {y : Operand} {i0 : Nat} {si : Oper} : ∀ {l : List Oper} {k : Nat}, storeAt k l = some (i0, si, ty, d, y) → k ≤ i0 ∧ l[i0 - k]? = some si ∧ si.guard = none ∧ si.dst = none ∧ si.op = .store ty (.tmp d) y
  | [], k, h => by cases h
  | o :: r, k, h => by
    unfold storeAt at h
    split at h
    · rename_i ty' d' y' he
      cases h
      unfold isStore at he
      split at he
      · rename_i h1 h2 h3
        cases he
        exact ⟨Nat.le_refl _, by simp, h1, h2, h3⟩
      · cases he
    · obtain ⟨h1, h2, h3⟩ := storeAt_ok h
      refine ⟨by omega, ?_, h3⟩
      rw [show i0 - k = (i0 - (k + 1)) + 1 by omega]
      simpa using h2

theorem softSt_ok (hT : TabOK P TB) (hm : P.follows .mixedOrders = true) (hcf : CFok P Φ ρ cf) {id i0 : Nat} {ops : Array Oper} {si : Oper} {ty : TypeId} {d : Tmp} {y : Operand} {st : St} {w0 : W0} {β : List Nat} {a : Act} {w : World} {Q : Exit → Act → World → Prop}
    (hsi : ops.toList[i0]? = some si) (hg : si.guard = none) (hd : si.dst = none) (hop : si.op = .store ty (.tmp d) y) (hro : cf.ro = w0.ro) (H : StM ρ w0 β st a w)
    (h : (softSt TB cf ops i0 si ty d y st).holds Φ ρ (fun st' => ∀ γ a' w', StM ρ w0 (β ++ γ) st' a' w' → Q .normal a' w')) : (Code.region id ops true).wp P Q a w := by
  unfold softSt at h
  split at h
  · exact h.elim
  rename_i n hn
  have hB := lastN_ok hn
  split at h
  case isFalse => exact h.elim
  rename_i hin
  simp only [Bool.and_eq_true] at hin
  have hin1 : i0 < n := by simpa using hin.1
  split at h
  case h_2 => exact h.elim
  rename_i d' t hal
  split at h
  case isFalse => exact h.elim
  rename_i hdd
  obtain rfl := Nat.eq_of_beq_eq_true hdd
  split at h
  case h_2 => exact h.elim
  rename_i ti tv v hti htv hv
  split at h
  case h_2 => exact h.elim
  rename_i l hl
  split at h
  · exact h.elim
  rename_i hchk
  have hchk' : isPtr v = false ∧ clashB d' ((ops.toList.set i0 (K.noop si)).take n) = false := by
    cases h1 : isPtr v <;> cases h2 : clashB d' ((ops.toList.set i0 (K.noop si)).take n) <;> simp [h1, h2] at hchk
    exact ⟨rfl, rfl⟩
  obtain ⟨x, hx, hx'⟩ := DT.holds_leaf _ (DT.holds_bind _ h)
  split at hx
  case h_2 => exact hx.elim
  rename_i b lv hb hlv
  split at hx
  case isFalse => exact hx.elim
  rename_i hnd
  simp only [Bool.and_eq_true] at hnd
  obtain ⟨hnd1, hnd2, hnd3, hnd4⟩ := hnd
  obtain rfl := Nat.eq_of_beq_eq_true hnd2
  have hll := Nat.eq_of_beq_eq_true hnd3
  have htl := Nat.eq_of_beq_eq_true hnd4
  have HS : SoftM ρ w β st a := ⟨H.tmps, H.heap.at_, H.facts, H.defers⟩
  have HA : At0 ρ w β st.heap := ⟨H.heap.len, H.heap.nodup, H.heap.at_⟩
  obtain ⟨vd, hvd, hvm⟩ := H.tmps.get? hv
  have hA : ∀ p, a.tmps.getD d' undef ≠ .pointer p := by
    intro p
    have : a.tmps.getD d' undef = vd := by
      have h1 : a.tmps[d']? = some vd := by simpa using hvd
      simp [Array.getD_eq_getD_getElem?, h1]
    rw [this]
    exact notPtr hchk'.1 hvm p
  have hmem : ∀ o ∈ (ops.toList.set i0 (K.noop si)).take n, ∀ d1 t1, allocOf o = some (d1, t1) → d1 = d' ∧ t1 = t := by
    intro o ho d1 t1 hot
    have : (d1, t1) ∈ ((ops.toList.set i0 (K.noop si)).take n).filterMap allocOf := List.mem_filterMap.2 ⟨o, ho, hot⟩
    rw [hal] at this
    simp at this
    exact this
  obtain ⟨hlz, _⟩ := cellsS_ok hl (svOf_m ρ β ti.zero)
  have hzl : ti.zero.cells.size = l.length := by rw [← Array.length_toList, ← hlz.length]
  obtain ⟨_, hsv, _⟩ := hT _ _ htv
  have := K.wp_region_soft_store (P := P) (id := id) (Q := Q) (l := ops.toList) (cs0 := ti.zero.cells) (t := t) n i0 (Stays.refl w) (fun dd v => ∀ d' r, dd = some d' → (d', r) ∈ x.log → SVm ρ [] r v) hsi hin1 hop hd hg hin.2 hm hB hA
    (K.wpSoft_mono ?_ _ _ (softList_ok (x := x) (β0 := β) (A := [(d', ti.zero.cells, t)]) hT hcf ((ops.toList.set i0 (K.noop si)).take n) ⟨st, []⟩ β a ?_ ?_
      (fun o _ _ => by simp) (by rw [hal]; simp) (fun _ => rfl) (Or.inl rfl) HA HS hx' (nodupB_ok hnd1)))
  · simpa using this
  · rintro a' ⟨hheap, β', hβ', H'⟩
    obtain ⟨u, hu, hum⟩ := H'.tmps.get? hb
    obtain ⟨p, hp, rfl⟩ := hum
    have hpd : a'.tmps.getD d' undef = .pointer (some ⟨p, 0, none⟩) := by
      have h1 : a'.tmps[d']? = some (.pointer (some ⟨p, 0, none⟩)) := by simpa using hu
      simp [Array.getD_eq_getD_getElem?, h1]
    rcases hβ' with rfl | ⟨_, p', hp', rfl⟩
    · exfalso
      have := (List.getElem?_eq_some_iff.1 hp).1
      rw [H.heap.len] at this
      omega
    · have hpp : p = p' := by
        rw [List.getElem?_append_right (by rw [H.heap.len]; exact Nat.le_refl _)] at hp
        simp [H.heap.len] at hp
        exact hp.symm
      subst hpp
      obtain ⟨hyl, hy1⟩ := cellsS_ok hlv (H'.ev y)
      have hys : (a'.eval y).cells.size = lv.length := by rw [← Array.length_toList, ← hyl.length]
      refine ⟨⟨p, hpd, hp', by rw [hys, hzl, hll], hy1, by rw [hsv, htl, hys]⟩, ?_⟩
      rintro w' ⟨hst, q, hq, _, hblk⟩
      rw [hpd] at hq
      cases hq
      refine opsDT_ok (w0 := w0) hT hcf hro _ ⟨x.st.tmps, x.st.heap ++ [⟨lv, t⟩], x.st.facts⟩ (β ++ [p]) a' w' ⟨H'.tmps, ⟨?_, ?_, ?_, ?_⟩, H.stays.trans hst, H'.facts, H'.defers⟩ (DT.holds_mono ?_ _ hx)
      · simp [hheap, H.heap.len]
      · rw [List.nodup_append]
        refine ⟨H.heap.nodup, by simp, fun q hq q' hq' => ?_⟩
        simp at hq'
        have := heap_lt H.heap q hq
        omega
      · exact own_push H.heap (by have := H.stays.size; omega)
      · intro b' k hk'
        have hk' : (x.st.heap ++ [(⟨lv, t⟩ : Blk)])[b']? = some k := hk'
        rw [hheap] at hk'
        by_cases hbb : b' < st.heap.length
        · rw [List.getElem?_append_left hbb] at hk'
          exact (H.heap.on hst).at_.ext [p] b' k hk'
        · have hbb' : b' = st.heap.length := by
            have := (List.getElem?_eq_some_iff.1 hk').1
            simp at this
            omega
          subst hbb'
          simp at hk'
          subst hk'
          refine ⟨p, (a'.eval y).cells, ?_, hblk, hyl⟩
          rw [← H.heap.len]
          simp
      · intro st' hst' γ a'' w'' H''
        exact hst' ([p] ++ γ) a'' w'' (by rw [← List.append_assoc]; exact H'')
  · intro o ho e he d1 t1 hot
    simp at he
    subst he
    obtain ⟨rfl, rfl⟩ := hmem o ho d1 t1 hot
    exact ⟨ti, hti, rfl⟩
  · intro o ho hnone e he
    simp at he
    subst he
    exact clash_ok hchk'.2 o ho hnone

theorem indexAddrS_ptr {t : TypeId} {a i r : SV} (h : indexAddrS TB t a i = some r) : ∃ b o, r = .one (.ptr b o) := by
  unfold indexAddrS at h
  split at h
  · split at h
    · split at h
      · split at h
        · cases h; exact ⟨_, _, rfl⟩
        · cases h
      · cases h
    · cases h
  · cases h
theorem indexSl_ptr {t : TypeId} {a i r : SV} (h : indexSl TB t a i = some r) : ∃ b o, r = .one (.ptr b o) := by
  unfold indexSl at h
  split at h
  · split at h
    · split at h
      · split at h
        · cases h; exact ⟨_, _, rfl⟩
        · cases h
      · cases h
    · cases h
  · cases h

theorem ptr_same {β : List Nat} {b o : Nat} {u v : Value} (h1 : SVm ρ β (.one (.ptr b o)) u) (h2 : SVm ρ β (.one (.ptr b o)) v) : v = u := by
  obtain ⟨p, hp, rfl⟩ := h1
  obtain ⟨q, hq, rfl⟩ := h2
  rw [hp] at hq
  cases hq
  rfl

theorem memNat_mem {n : Nat} : ∀ {l : List Nat}, n ∈ l → memNat n l = true
  | x :: r, h => by
    simp only [memNat, Bool.or_eq_true]
    rcases List.mem_cons.1 h with rfl | h
    · exact Or.inl (Nat.beq_refl _)
    · exact Or.inr (memNat_mem h)

theorem run_fop2 {P : Program} (w w1 : World) (hd : w.drawn = w1.drawn) (ht : w.tape = w1.tape) (op : BinOp) (t : TypeId) (k : FloatKind) (x y : Nat) (ha : arith op = true) :
    ∃ v n, (binOp op t (.float k x) (.float k y)).run P w = .ok v (w.drewN n) ∧ (binOp op t (.float k x) (.float k y)).run P w1 = .ok v (w1.drewN n) := by
  cases h : floatBits op k x y with
  | some r => exact ⟨_, 0, run_float_arith w op t k x y r h, run_float_arith w1 op t k x y r h⟩
  | none =>
    refine ⟨.float k (Question.cut (.nanBits k x y) (w.tape w.drawn (.nanBits k x y))), 1, ?_, ?_⟩
    · unfold floatBits at h
      cases op <;> simp only at h <;> first | cases ha | skip
      all_goals
        simp [binOp, Op.floatArith, h, choose, Question.forced, Sem.run, World.drewN]
    · rw [hd, ht]
      unfold floatBits at h
      cases op <;> simp only at h <;> first | cases ha | skip
      all_goals
        simp [binOp, Op.floatArith, h, choose, Question.forced, Sem.run, World.drewN]

theorem fkOf_ok {β : List Nat} {x : SV} {k : FloatKind} {v : Value} (h : fkOf x = some k) (hx : SVm ρ β x v) : ∃ r, v = .float k r := by
  unfold fkOf at h
  split at h
  · rename_i s
    unfold fkind at h
    split at h
    · cases h
      first | (obtain ⟨r, hr, _⟩ := hx; exact ⟨r, hr⟩) | exact ⟨_, hx⟩
    · cases h
      first | (obtain ⟨r, hr, _⟩ := hx; exact ⟨r, hr⟩) | exact ⟨_, hx⟩
    · cases h
  · cases h

theorem load_two (hT : TabOK P TB) {β : List Nat} {t : TypeId} {b off : Nat} {r : SV} {va : Value} {heap : List Blk} {w w1 : World} (H : HeapAt ρ β heap w1) (hsame : ∀ q, β[b]? = some q → w.heap[q]? = w1.heap[q]?) (h : loadS TB t (.p (.one (.ptr b off))) heap = some r) (ha : SVm ρ β (.p (.one (.ptr b off))) va) :
    ∃ v, (Instr.loadAt t va).run P w = .ok v w ∧ (Instr.loadAt t va).run P w1 = .ok v w1 := by
  unfold loadS at h
  split at h
  · rename_i b off ti hx hti
    cases hx
    obtain ⟨p, hp, rfl⟩ := ha
    cases hb : heap[b]? with
    | none => rw [hb] at h; cases h
    | some blk =>
      rw [hb] at h
      obtain ⟨p', cs, hp', hg, hl⟩ := H b blk hb
      obtain rfl : p = p' := by rw [hp] at hp'; exact Option.some.inj hp'
      have hg' : w.heap[p]? = some (.cells cs blk.t (0, 0)) := by rw [hsame p hp]; exact hg
      obtain ⟨hu, hi, _⟩ := hT _ _ hti
      simp only [partS] at h
      split at h
      · rename_i hr
        split at h
        · rename_i hle
          have hle' := Nat.le_of_ble_eq_true hle
          cases h
          have h2 := (hl.drop off).take ti.size
          have hlen : ((cs.toList.drop off).take ti.size).length = ti.size := by rw [← h2.length]; simp; omega
          have hc : ∀ {w : World}, w.heap[p]? = some (.cells cs blk.t (0, 0)) → w.rangeAt p off ((cs.toList.drop off).take ti.size) := fun hg j v hj => by
            rw [cell_in hg]
            have : j < ti.size := by have := (List.getElem?_eq_some_iff.1 hj).1; omega
            simpa [this] using hj
          have hrow : (match ti.desc with | .struct _ | .array _ _ => true | _ => false) = true ∨ True := Or.inr trivial
          refine ⟨_, run_loadAt_mid w p off t _ ti.desc (hc hg') hu ?_ (by rw [hlen]; exact hi), run_loadAt_mid w1 p off t _ ti.desc (hc hg) hu ?_ (by rw [hlen]; exact hi)⟩
          · revert hr; cases ti.desc <;> simp [isRowB, TypeDesc.isRow]
          · revert hr; cases ti.desc <;> simp [isRowB, TypeDesc.isRow]
        · cases h
      · rename_i hr
        cases hx : blk.cells[off]? with
        | none => rw [hx] at h; cases h
        | some s =>
          rw [hx] at h
          cases h
          obtain ⟨v, hv, hm⟩ := hl.get? off hx
          have hv' : cs[off]? = some v := by simpa using hv
          have hagg : ∀ w : World, (isAgg t).run P w = .ok false w := fun w => by
            unfold isAgg
            rw [Sem.run_bind, run_underlying hu w]
            cases hd : ti.desc <;> simp_all [isRowB]
          exact ⟨v, by simp [Instr.loadAt, Instr.sureAddr, loadVar, Sem.run_bind, hagg, load, Sem.run, cell_in hg', hv'], by simp [Instr.loadAt, Instr.sureAddr, loadVar, Sem.run_bind, hagg, load, Sem.run, cell_in hg, hv']⟩
  · cases h

theorem late_run (hT : TabOK P TB) {o : Oper} {l : List Operand} {β : List Nat} {ev : Operand → SV} {a : Act} {heap : List Blk} {bad : List Nat} {w w1 : World} (hl : K.lateOp o = some l) (h : lateOK TB ev heap bad o = true) (hev : ∀ x, SVm ρ β (ev x) (a.eval x))
    (H : HeapAt ρ β heap w1) (hd : w.drawn = w1.drawn) (ht : w.tape = w1.tape) (hs : ∀ b q, β[b]? = some q → memNat b bad = false → w.heap[q]? = w1.heap[q]?) :
    ∃ v m, (execOp a.eval o).run P w = .ok (.value v) (w.drewN m) ∧ (execOp a.eval o).run P w1 = .ok (.value v) (w1.drewN m) := by
  have pur : (∃ v, ∀ w, (execOp a.eval o).run P w = .ok (.value v) w) → ∃ v m, (execOp a.eval o).run P w = .ok (.value v) (w.drewN m) ∧ (execOp a.eval o).run P w1 = .ok (.value v) (w1.drewN m) := fun ⟨v, hv⟩ => ⟨v, 0, hv w, hv w1⟩
  unfold K.lateOp at hl
  unfold lateOK at h
  split at hl
  · rename_i x hg hop; exact pur ⟨a.eval x, fun w => by simp [execOp, hop]⟩
  · rename_i x hg hop; exact pur ⟨a.eval x, fun w => by simp [execOp, hop]⟩
  · rename_i x k hg hop
    simp only [hop] at h
    have hx := hev x
    split at h
    · rename_i l' hl'
      rw [hl'] at hx
      obtain ⟨cs, hc, ha⟩ := hx
      have hk : k < l'.length := by simpa using h
      obtain ⟨v, hv, _⟩ := ha.get? k (List.getElem?_eq_getElem hk)
      have hv' : cs[k]? = some v := by simpa using hv
      exact pur ⟨v, fun w => by simp [execOp, hop, hc, Instr.extract, hv', Result.andThen]⟩
    · cases h
  · rename_i x hg hop
    simp only [hop] at h
    have hx := hev x
    split at h
    · rename_i b off hl'
      rw [hl'] at hx
      obtain ⟨p, hp, hv⟩ := hx
      exact pur ⟨a.eval x, fun w => by simp [execOp, hop, hv]⟩
    · cases h
  · rename_i t x i hg hop
    simp only [hop] at h
    split at h
    · rename_i r hr
      obtain ⟨b, off, rfl⟩ := indexAddrS_ptr hr
      obtain ⟨v, hv, hm⟩ := indexAddrS_ok (w := w) hT hr (hev x) (hev i)
      refine pur ⟨v, fun w => ?_⟩
      obtain ⟨v', hv', hm'⟩ := indexAddrS_ok (w := w) hT hr (hev x) (hev i)
      rw [ptr_same hm hm'] at hv'
      simp [execOp, hop, hv', Result.andThen]
    · split at h
      · rename_i r hr
        obtain ⟨b, off, rfl⟩ := indexSl_ptr hr
        obtain ⟨v, hv, hm⟩ := indexSl_ok (w := w) hT hr (hev x) (hev i)
        refine pur ⟨v, fun w => ?_⟩
        obtain ⟨v', hv', hm'⟩ := indexSl_ok (w := w) hT hr (hev x) (hev i)
        rw [ptr_same hm hm'] at hv'
        simp [execOp, hop, hv', Result.andThen]
      · cases h
  · rename_i t x hg hop
    simp only [hop] at h
    have hx := hev x
    split at h
    · rename_i b off hl'
      rw [hl'] at hx
      simp only [Bool.and_eq_true, Bool.not_eq_true'] at h
      obtain ⟨hb, h⟩ := h
      split at h
      · rename_i r hr
        obtain ⟨v, h1, h2⟩ := load_two hT H (fun q hq => hs b q hq hb) hr hx
        exact ⟨v, 0, by simp [execOp, hop, h1, Result.andThen, World.drewN], by simp [execOp, hop, h2, Result.andThen, World.drewN]⟩
      · cases h
    · cases h
  · rename_i t x k hg hop
    simp only [hop] at h
    split at h
    · rename_i b off hr
      obtain ⟨v, hv, hm⟩ := fieldAddrS_ok (w := w) hT hr (hev x)
      refine pur ⟨v, fun w => ?_⟩
      obtain ⟨v', hv', hm'⟩ := fieldAddrS_ok (w := w) hT hr (hev x)
      rw [ptr_same hm hm'] at hv'
      simp [execOp, hop, hv', Result.andThen]
    · cases h
  · rename_i op t x y t2 hg hop
    simp only [hop, Bool.and_eq_true] at h
    obtain ⟨har, h⟩ := h
    split at h
    · rename_i k k' h1 h2
      have hk := kn_inj (Nat.eq_of_beq_eq_true h)
      replace h2 : fkOf (ev y) = some k := by rw [h2, hk]
      obtain ⟨r1, e1⟩ := fkOf_ok h1 (hev x)
      obtain ⟨r2, e2⟩ := fkOf_ok h2 (hev y)
      obtain ⟨v, n, hv, hv1⟩ := run_fop2 (P := P) w w1 hd ht op t k r1 r2 har
      have hgd : eqGuard op t x y (.float k r1) (.float k r2) = Pure.pure () := by cases op <;> first | rfl | cases har
      exact ⟨v, n, by simp [execOp, hop, e1, e2, hgd, hv, Result.andThen], by simp [execOp, hop, e1, e2, hgd, hv1, Result.andThen]⟩
    · cases h
  · cases hl

theorem setCells_draw (p : Nat) : ∀ (l : List Value) (o m : Nat) (w : World), (w.drewN m).setCells p o l = (w.setCells p o l).drewN m
  | [], _, _, _ => rfl
  | v :: l, o, m, w => setCells_draw p l (o + 1) m (w.setCell ⟨p, o, none⟩ v)
theorem setCells_same (p : Nat) : ∀ (l : List Value) (o : Nat) (w : World), (w.setCells p o l).drawn = w.drawn ∧ (w.setCells p o l).tape = w.tape
  | [], _, _ => ⟨rfl, rfl⟩
  | v :: l, o, w => setCells_same p l (o + 1) (w.setCell ⟨p, o, none⟩ v)

theorem storeS_put (hT : TabOK P TB) {w0 : W0} {β : List Nat} {st : St} {a : Act} {w : World} {t : TypeId} {x v : SV} {vx vv : Value} {Q : St → Prop} (H : StM ρ w0 β st a w) (h : (storeS TB w0.ro t x v st).holds Φ ρ Q) (hx : SVm ρ β x vx) (hv : SVm ρ β v vv) :
    ∃ (b off p : Nat) (w' : World), x = .p (.one (.ptr b off)) ∧ β[b]? = some p ∧ (∀ m, (Instr.storeAt t vx vv).run P (w.drewN m) = .ok () (w'.drewN m)) ∧ w'.drawn = w.drawn ∧ w'.tape = w.tape ∧ ∀ q, q ≠ p → w'.heap[q]? = w.heap[q]? := by
  unfold storeS at h
  split at h
  · rename_i b off l ti hl hti
    split at h
    · rename_i blk hb
      split at h
      · rename_i hc
        simp only [Bool.and_eq_true] at hc
        replace hc := hc.2
        have hc1 := Nat.eq_of_beq_eq_true hc.1
        have hc2 := Nat.le_of_ble_eq_true hc.2
        obtain ⟨p, hp, rfl⟩ := hx
        obtain ⟨p', cs, hp', hg, hcs⟩ := H.heap.at_ b blk hb
        obtain rfl : p = p' := by rw [hp] at hp'; exact Option.some.inj hp'
        obtain ⟨hlv, h1⟩ := cellsS_ok hl hv
        obtain ⟨_, hs, _⟩ := hT _ _ hti
        have hlen : vv.cells.size = l.length := by rw [← Array.length_toList, ← hlv.length]
        have hcl : blk.cells.length = cs.size := by rw [← Array.length_toList, ← hcs.length]
        have hth : w.there p off vv.cells.size := fun j hj => by
          have e : w.cell? ⟨p, off + j, none⟩ = cs[off + j]? := cell_of_row w p (off + j) cs blk.t (0, 0) hg
          refine ⟨?_, frozen_of_row w p (off + j) cs blk.t hg⟩
          rw [e]
          have : off + j < cs.size := by omega
          simp [this]
        obtain ⟨a1, a2, a3, a4, a5, a6⟩ := setCells_heap p blk.t vv.cells.toList off cs w hg
        have hsm := setCells_same p vv.cells.toList off w
        refine ⟨b, off, p, w.setCells p off vv.cells.toList, rfl, hp, fun m => ?_, hsm.1, hsm.2, fun q hq => a2 q hq⟩
        have := run_storeVar_any (P := P) (ty := t) (w := w.drewN m) hth (by rw [hs, hlen, hc1]) h1
        rw [setCells_draw] at this
        exact this
      · exact h.elim
    · exact h.elim
  · exact h.elim

theorem storeS_ev {TB : Tab} {ro : Nat} {t : TypeId} {x v : SV} {st : St} {Q : St → Prop} (h : (storeS TB ro t x v st).holds Φ ρ Q) : (storeS TB ro t x v st).holds Φ ρ fun st' => st'.tmps = st.tmps ∧ Q st' := by
  unfold storeS at h ⊢
  split at h
  · split at h
    · split at h
      · rename_i hc
        rw [if_pos hc]
        exact ⟨rfl, h⟩
      · exact h.elim
    · exact h.elim
  · exact h.elim

theorem badOf_mem {ev : Operand → SV} {l : List Oper} {sts : List Nat} {i b off : Nat} {ty : TypeId} {x y : Operand} (hi : i ∈ sts) (hs : K.storeOf l i = some (ty, x, y)) (hx : ev x = .p (.one (.ptr b off))) : b ∈ badOf ev l sts :=
  List.mem_filterMap.2 ⟨i, hi, by rw [hs]; simp only [hx]⟩

theorem stores_near (hT : TabOK P TB) {l : List Oper} {w0 : W0} {β : List Nat} {a : Act} {Q : St → Prop} {T : Tr} {bad : List Nat} : ∀ (sts : List Nat) (st : St) (w : World), st.tmps = T → (∀ i ∈ sts, ∀ ty x y b off, K.storeOf l i = some (ty, x, y) → st.ev x = .p (.one (.ptr b off)) → b ∈ bad) →
    StM ρ w0 β st a w → (storesS TB w0.ro l sts st).holds Φ ρ Q → ∀ k w', K.Runs P ((sts.take k).map (K.evS l a)) w w' →
    w'.drawn = w.drawn ∧ w'.tape = w.tape ∧ (∀ b q, β[b]? = some q → memNat b bad = false → w'.heap[q]? = w.heap[q]?) ∧ ∀ m, K.Runs P ((sts.take k).map (K.evS l a)) (w.drewN m) (w'.drewN m)
  | [], st, w, _, _, H, h, k, w', hr => by
    rw [List.take_nil] at hr ⊢
    obtain rfl : w' = w := hr
    exact ⟨rfl, rfl, fun _ _ _ _ => rfl, fun m => rfl⟩
  | i :: r, st, w, e, hb, H, h, 0, w', hr => by
    obtain rfl : w' = w := hr
    exact ⟨rfl, rfl, fun _ _ _ _ => rfl, fun m => rfl⟩
  | i :: r, st, w, e, hb, H, h, k + 1, w', hr => by
    unfold storesS at h
    split at h
    · rename_i ty x y hs
      have h := storeS_ev (DT.holds_bind _ h)
      obtain ⟨b, off, p, w2, hx, hp, hput, hd, ht, hh⟩ := storeS_put hT H h (H.ev x) (H.ev y)
      obtain ⟨w1, st1, hrun, H1, ht1, h1⟩ := storeS_ok hT H h (H.ev x) (H.ev y)
      have h0 := hput 0
      have : w2 = w1 := by
        have h0 : (Instr.storeAt ty (a.eval x) (a.eval y)).run P w = .ok () w2 := h0
        rw [hrun] at h0
        cases h0
        rfl
      subst this
      have hev : K.evS l a i = (ty, a.eval x, a.eval y) := by unfold K.evS; rw [hs]
      rw [List.take_succ_cons, List.map_cons, hev] at hr ⊢
      obtain ⟨w3, hr1, hr2⟩ := hr
      have : w3 = w2 := by
        have hr1 : (Instr.storeAt ty (a.eval x) (a.eval y)).run P w = .ok () w3 := hr1
        rw [hrun] at hr1
        cases hr1
        rfl
      subst this
      have hev1 : st1.ev = st.ev := by
        funext z
        cases z with
        | tmp t => show st1.tmps.get t = st.tmps.get t; rw [ht1]
        | const v => rfl
        | global v => rfl
        | func v => rfl
      obtain ⟨i1, i2, i3, i4⟩ := stores_near hT r st1 w3 (ht1.trans e) (fun j hj ty x y b off hs hx => hb j (List.mem_cons_of_mem _ hj) ty x y b off hs (by rw [← hev1]; exact hx)) H1 h1 k w' hr2
      refine ⟨i1.trans hd, i2.trans ht, fun b' q hq hm => ?_, fun m => ⟨w3.drewN m, hput m, i4 m⟩⟩
      rw [i3 b' q hq hm]
      refine hh q fun hqp => ?_
      subst hqp
      have hbb := nodup_inj H.heap.nodup hp hq
      subst hbb
      have := memNat_mem (hb i List.mem_cons_self ty x y b off hs hx)
      rw [hm] at this
      cases this
    · exact h.elim

theorem storesS_ok (hT : TabOK P TB) {l : List Oper} {w0 : W0} {β : List Nat} {a : Act} {Q : St → Prop} : ∀ (sts : List Nat) (st : St) (w : World), StM ρ w0 β st a w → (storesS TB w0.ro l sts st).holds Φ ρ Q →
    ∃ w' st', K.Runs P (sts.map (K.evS l a)) w w' ∧ StM ρ w0 β st' a w' ∧ Q st'
  | [], st, w, H, h => ⟨w, st, rfl, H, h⟩
  | i :: r, st, w, H, h => by
    unfold storesS at h
    split at h
    · rename_i ty x y hs
      have h := DT.holds_bind _ h
      obtain ⟨w1, st1, hrun, H1, h1⟩ := storeS_ok hT H h (H.ev x) (H.ev y)
      obtain ⟨w', st', hr, H', hq⟩ := storesS_ok hT r st1 w1 H1 h1
      refine ⟨w', st', ⟨w1, ?_, hr⟩, H', hq⟩
      have : K.evS l a i = (ty, a.eval x, a.eval y) := by unfold K.evS; rw [hs]
      rw [this]
      exact hrun
    · exact h.elim

theorem softMs_ok (hT : TabOK P TB) (hm : P.follows .mixedOrders = true) (hcf : CFok P Φ ρ cf) {id : Nat} {ops : Array Oper} {st : St} {w0 : W0} {β : List Nat} {a : Act} {w : World} {Q : Exit → Act → World → Prop}
    (hro : cf.ro = w0.ro) (H : StM ρ w0 β st a w)
    (h : (softMs TB cf ops st).holds Φ ρ (fun st' => ∀ γ a' w', StM ρ w0 (β ++ γ) st' a' w' → Q .normal a' w')) : (Code.region id ops true).wp P Q a w := by
  unfold softMs at h
  split at h
  · exact h.elim
  rename_i n hn
  have hB := lastN_ok hn
  split at h
  · exact h.elim
  rename_i hc
  simp only [Bool.and_eq_true] at hc
  obtain ⟨hc1, hc2, hc3, hc4⟩ := hc
  obtain ⟨x, hx, hx'⟩ := DT.holds_leaf _ (DT.holds_bind _ h)
  split at hx
  · exact hx.elim
  rename_i hnd
  simp only [Bool.and_eq_true] at hnd
  obtain ⟨hnd1, hnd2⟩ := hnd
  have HS : SoftM ρ w β st a := ⟨H.tmps, H.heap.at_, H.facts, H.defers⟩
  have HA : At0 ρ w β st.heap := ⟨H.heap.len, H.heap.nodup, H.heap.at_⟩
  have hnone : ∀ o ∈ (ops.toList.map K.nz).take n, allocOf o = none := fun o ho => by simpa using List.all_eq_true.1 hc4 o ho
  have hal : ((ops.toList.map K.nz).take n).filterMap allocOf = [] := List.filterMap_eq_nil_iff.2 hnone
  have hmem : ∀ i, i ∈ stsOf ops.toList n ↔ i < n ∧ (K.storeOf ops.toList i).isSome = true := fun i => by simp [stsOf]
  have := K.wp_region_soft_stores (P := P) (id := id) (Q := Q) (ops := ops.toList) (n := n) (sts := stsOf ops.toList n) (Stays.refl w) (fun dd v => ∀ d' r, dd = some d' → (d', r) ∈ x.log → SVm ρ [] r v)
    (fun i o ho hi hs => (hmem i).2 ⟨hi, by unfold K.storeOf; rw [ho]; exact hs⟩)
    (fun i hi => by
      obtain ⟨h1, h2⟩ := (hmem i).1 hi
      refine ⟨h1, ?_⟩
      unfold K.storeOf at h2
      cases ho : ops.toList[i]? with
      | none => rw [ho] at h2; cases h2
      | some o => rw [ho] at h2; exact ⟨o, rfl, h2⟩)
    hc1 (List.nodup_range.filter _) (fun i hi => List.all_eq_true.1 hc2 i hi) (fun i0 hi0 => List.all_eq_true.1 hc3 i0 (List.mem_of_getElem? (i := 0) (by simpa using hi0))) hm hB
    (K.wpSoft_mono ?_ _ _ (softList_ok (x := x) (β0 := β) (A := []) hT hcf ((ops.toList.map K.nz).take n) ⟨st, []⟩ β a (fun o _ e he => by simp at he) (fun o _ _ e he => by simp at he)
      (fun o ho hne => absurd (hnone o ho) hne) (by rw [hal]; simp) (fun _ => rfl) (Or.inl rfl) HA HS hx' (nodupB_ok hnd1)))
  · simpa using this
  · rintro a' ⟨hheap, β', hβ', H'⟩
    rcases hβ' with rfl | ⟨hc, _⟩
    · have hst : ∀ w1, Stays w w1 → StM ρ w0 β' x.st a' w1 := fun w1 hw1 => ⟨H'.tmps, by rw [hheap]; exact H.heap.on hw1, H.stays.trans hw1, H'.facts, H'.defers⟩
      rw [hro] at hx
      have hx := DT.holds_bind _ hx
      refine ⟨⟨fun j o l hj ho hs hl => ?_, fun k w1 w' m hw1 hr => ?_, fun w1 hw1 => ?_⟩, fun w1 w' hw1 hr => ?_⟩
      · intro ⟨i0, o0, hi0, ho0, hno⟩ k w1 w2 hw1 hr
        have hj2 := List.all_eq_true.1 hnd2 j (List.mem_range.2 hj)
        have hlo : lateOK TB x.st.ev st.heap (badOf x.st.ev ops.toList (stsOf ops.toList n)) o = true := by
          have hwo : waitsOn ops.toList (stsOf ops.toList n) j = false := by
            unfold waitsOn
            cases hs' : stsOf ops.toList n with
            | nil => rfl
            | cons a r =>
              rw [hs'] at hi0
              obtain rfl : a = i0 := by simpa using hi0
              simp only [ho0, hno]
          rw [hwo, Bool.false_or] at hj2
          unfold lateAt at hj2
          rw [ho] at hj2
          exact hj2
        obtain ⟨n1, n2, n3, _⟩ := stores_near (bad := badOf x.st.ev ops.toList (stsOf ops.toList n)) hT _ x.st w1 rfl (fun i hi ty y z b off hs' hy => badOf_mem hi hs' hy) (hst w1 hw1) hx k w2 hr
        exact late_run hT hl hlo H'.ev (H.heap.on hw1).at_ n1 n2 n3
      · exact (stores_near (bad := badOf x.st.ev ops.toList (stsOf ops.toList n)) hT _ x.st w1 rfl (fun i hi ty y z b off hs' hy => badOf_mem hi hs' hy) (hst w1 hw1) hx k w' hr).2.2.2 m
      · obtain ⟨w', st', hr, _, _⟩ := storesS_ok hT _ x.st w1 (hst w1 hw1) hx
        exact ⟨w', hr⟩
      · obtain ⟨w2, st', hr2, H2, hq⟩ := storesS_ok hT _ x.st w1 (hst w1 hw1) hx
        obtain rfl := hr.det hr2
        exact opsDT_ok hT hcf hro _ st' β' a' w' H2 hq
    · exact absurd rfl hc

theorem softDF_ok (hT : TabOK P TB) (hm : P.follows .mixedOrders = true) (hcf : CFok P Φ ρ cf) : DFok P Φ ρ cf.ro (softDF TB cf) := by
  intro id ops st w0 β a w Q hro H h
  unfold softDF at h
  split at h
  · split at h
    · exact h.elim
    · rename_i i0 si ty d y hs
      obtain ⟨_, h1, h2, h3, h4⟩ := storeAt_ok hs
      split at h
      · exact softMs_ok hT hm hcf hro H h
      exact softSt_ok hT hm hcf (by simpa using h1) h2 h3 h4 hro H h
  rename_i n hn
  have hB := lastN_ok hn
  have hreg : ∀ (S : Option Tmp → Value → Prop) (A : List (Tmp × Array Value × TypeId)), (∀ e ∈ A, ∀ p, a.tmps.getD e.1 undef ≠ .pointer p) →
      K.wpSoft P ops w S A (fun a' => ∀ w', K.Keeps w A a' w' → wpList P ops Q (ops.toList.drop n) a' w') (ops.toList.take n) a → (Code.region id ops true).wp P Q a w := by
    intro S A hA hs
    have := K.wp_region_soft_tail (P := P) (id := id) (Q := Q) (l := ops.toList) n (Stays.refl w) S A hm (by simpa using hB) hA (by simpa using hs)
    simpa using this
  have HS : SoftM ρ w β st a := ⟨H.tmps, H.heap.at_, H.facts, H.defers⟩
  have HA : At0 ρ w β st.heap := ⟨H.heap.len, H.heap.nodup, H.heap.at_⟩
  split at h
  · rename_i hal
    obtain ⟨x, hx, hx'⟩ := DT.holds_leaf _ (DT.holds_bind _ h)
    split at hx
    case isFalse => exact hx.elim
    rename_i hnd
    have hnone := allocs_nil hal
    refine hreg _ [] (fun e he => by simp at he) (K.wpSoft_mono ?_ _ _ (softList_ok (β0 := β) (A := []) hT hcf (ops.toList.take n) ⟨st, []⟩ β a (fun o _ e he => by simp at he) (fun o _ _ e he => by simp at he)
      (fun o ho hne => absurd (hnone o ho) hne) (by rw [hal]; simp) (fun _ => rfl) (Or.inl rfl) HA HS hx' (nodupB_ok hnd)))
    rintro a' ⟨hheap, β', hβ', H'⟩ w' hw'
    rcases hβ' with rfl | ⟨hc, _⟩
    · refine opsDT_ok hT hcf hro _ x.st β' a' w' ⟨H'.tmps, ?_, H.stays.trans hw'.1, H'.facts, H'.defers⟩ hx
      rw [hheap]
      exact H.heap.on hw'.1
    · exact absurd rfl hc
  · rename_i d t hal
    split at h
    case h_2 => exact h.elim
    rename_i ti v hti hv
    split at h
    case h_2 => exact h.elim
    rename_i l hl
    split at h
    · exact h.elim
    rename_i hchk
    have hchk' : isPtr v = false ∧ clashB d (ops.toList.take n) = false := by
      cases h1 : isPtr v <;> cases h2 : clashB d (ops.toList.take n) <;> simp [h1, h2] at hchk
      exact ⟨rfl, rfl⟩
    obtain ⟨x, hx, hx'⟩ := DT.holds_leaf _ (DT.holds_bind _ h)
    split at hx
    case h_2 => exact hx.elim
    rename_i b hb
    split at hx
    case isFalse => exact hx.elim
    rename_i hnd
    simp only [Bool.and_eq_true] at hnd
    obtain rfl := Nat.eq_of_beq_eq_true hnd.2
    obtain ⟨vd, hvd, hvm⟩ := H.tmps.get? hv
    have hA : ∀ e ∈ [(d, ti.zero.cells, t)], ∀ p, a.tmps.getD e.1 undef ≠ .pointer p := by
      intro e he p
      simp at he
      subst he
      have : a.tmps.getD d undef = vd := by
        have h1 : a.tmps[d]? = some vd := by simpa using hvd
        simp [Array.getD_eq_getD_getElem?, h1]
      rw [this]
      exact notPtr hchk'.1 hvm p
    have hmem : ∀ o ∈ ops.toList.take n, ∀ d' t', allocOf o = some (d', t') → d' = d ∧ t' = t := by
      intro o ho d' t' hot
      have : (d', t') ∈ (ops.toList.take n).filterMap allocOf := List.mem_filterMap.2 ⟨o, ho, hot⟩
      rw [hal] at this
      simp at this
      exact this
    refine hreg _ [(d, ti.zero.cells, t)] hA (K.wpSoft_mono ?_ _ _ (softList_ok (β0 := β) (A := [(d, ti.zero.cells, t)]) hT hcf (ops.toList.take n) ⟨st, []⟩ β a ?_ ?_
      (fun o _ _ => by simp) (by rw [hal]; simp) (fun _ => rfl) (Or.inl rfl) HA HS hx' (nodupB_ok hnd.1)))
    · rintro a' ⟨hheap, β', hβ', H'⟩ w' hw'
      obtain ⟨u, hu, hum⟩ := H'.tmps.get? hb
      obtain ⟨p, hp, rfl⟩ := hum
      have hk := hw'.2 (d, ti.zero.cells, t) (by simp) p (by
        have h1 : a'.tmps[d]? = some (.pointer (some ⟨p, 0, none⟩)) := by simpa using hu
        simp [Array.getD_eq_getD_getElem?, h1])
      rcases hβ' with rfl | ⟨_, p', hp', rfl⟩
      · exfalso
        have := (List.getElem?_eq_some_iff.1 hp).1
        rw [H.heap.len] at this
        omega
      · have hpp : p = p' := by
          rw [List.getElem?_append_right (by rw [H.heap.len]; exact Nat.le_refl _)] at hp
          simp [H.heap.len] at hp
          exact hp.symm
        subst hpp
        obtain ⟨hlv, _⟩ := cellsS_ok hl (svOf_m ρ β ti.zero)
        refine opsDT_ok (w0 := w0) hT hcf hro _ ⟨x.st.tmps, x.st.heap ++ [⟨l, t⟩], x.st.facts⟩ (β ++ [p]) a' w' ⟨H'.tmps, ⟨?_, ?_, ?_, ?_⟩, H.stays.trans hw'.1, H'.facts, H'.defers⟩ (DT.holds_mono ?_ _ hx)
        · simp [hheap, H.heap.len]
        · rw [List.nodup_append]
          refine ⟨H.heap.nodup, by simp, fun q hq q' hq' => ?_⟩
          simp at hq'
          have := heap_lt H.heap q hq
          omega
        · exact own_push H.heap (by have := H.stays.size; omega)
        · intro b' k hk'
          have hk' : (x.st.heap ++ [(⟨l, t⟩ : Blk)])[b']? = some k := hk'
          rw [hheap] at hk'
          by_cases hbb : b' < st.heap.length
          · rw [List.getElem?_append_left hbb] at hk'
            exact (H.heap.on hw'.1).at_.ext [p] b' k hk'
          · have hbb' : b' = st.heap.length := by
              have := (List.getElem?_eq_some_iff.1 hk').1
              simp at this
              omega
            subst hbb'
            simp at hk'
            subst hk'
            refine ⟨p, ti.zero.cells, ?_, hk, hlv.mono fun _ _ => SSm.ext _⟩
            rw [← H.heap.len]
            simp
        · intro st' hst' γ a'' w'' H''
          exact hst' ([p] ++ γ) a'' w'' (by rw [← List.append_assoc]; exact H'')
    · intro o ho e he d' t' hot
      simp at he
      subst he
      obtain ⟨rfl, rfl⟩ := hmem o ho d' t' hot
      exact ⟨ti, hti, rfl⟩
    · intro o ho hnone e he
      simp at he
      subst he
      exact clash_ok hchk'.2 o ho hnone
  · exact h.elim

end
end Go.Proofs.Ytcopccniijkceaa
