/- A symbolic walk: operations in one order, code, calls. No condition. -/
import Derived.Scope
import Derived.Test.YtcopccniijkceaaY3
import Derived.Test.YtcopccniijkceaaMx
import Derived.Test.YtcopccniijkceaaSp
namespace Go.Proofs.Ytcopccniijkceaa
open Go Go.RowKit
set_option linter.unusedVariables false
set_option linter.unusedSimpArgs false

inductive Ex where
  | normal
  | ret
  | exit (id : Nat)

noncomputable def Ex.to : Ex → Exit
  | .normal => .normal
  | .ret => .ret
  | .exit id => .exit id

noncomputable def St.put (st : St) (d : Option Tmp) (v : SV) : St :=
  match d with
  | some d => { st with tmps := st.tmps.set d v }
  | none => st

noncomputable def St.ev (st : St) : Operand → SV
  | .tmp t => st.tmps.get t
  | .const v => svOf v
  | .global g => .one (.lit (.pointer (some ⟨g, 0, none⟩)))
  | .func f => .one (.lit (.func (.func f) #[] #[]))

noncomputable def cellsS : SV → Option (List SS)
  | .p (.one s) => if okCell s then some [s] else none
  | .p (.agg l) => if l.all okCell then some l else none
  | .tup _ => none
  | .clo .. => none

noncomputable def known (n : Nat) : List (Nat × Bool) → Option Bool
  | [] => none
  | (m, x) :: r => if Nat.beq m n then some x else known n r

noncomputable def splitOn {α : Type} (st : St) (n : Nat) (neg : Bool) (f : Bool → St → DT α) : DT α :=
  match known n st.facts with
  | some x => f (x != neg) st
  | none => .split n (f (true != neg) { st with facts := (n, true) :: st.facts }) (f (false != neg) { st with facts := (n, false) :: st.facts })

/-- What a call gives: by the callee, its arguments, what is known of the memory. -/
structure CF where
  ro : Nat
  call : Nat → FuncId → List SV → St → DT (SV × St)

noncomputable def storeS (TB : Tab) (ro : Nat) (t : TypeId) (a v : SV) (st : St) : DT St :=
  match a, cellsS v, TB t with
  | .p (.one (.ptr b off)), some l, some ti => match st.heap[b]? with
    | some blk =>
      if Nat.ble ro b && (Nat.beq l.length ti.size && Nat.ble (off + l.length) blk.cells.length) then .ret { st with heap := st.heap.set b ⟨blk.cells.take off ++ (l ++ blk.cells.drop (off + l.length)), blk.t⟩ } else .fail 11
    | none => .fail 12
  | _, _, _ => .fail 13

noncomputable def opDo (TB : Tab) (cf : CF) (o : Oper) (st : St) : DT St :=
  match o.op with
  | .alloc t => match TB t with
    | some ti => match cellsS (svOf ti.zero) with
      | some l => .ret (St.put ⟨st.tmps, st.heap ++ [⟨l, t⟩], st.facts⟩ o.dst (.one (.ptr st.heap.length 0)))
      | none => .fail 1
    | none => .fail 2
  | .box t x => match cellsS (st.ev x) with
    | some l => .ret (St.put ⟨st.tmps, st.heap ++ [⟨l, t⟩], st.facts⟩ o.dst (.one (.ptr st.heap.length 0)))
    | none => .fail 3
  | .store t x y => (storeS TB cf.ro t (st.ev x) (st.ev y) st).bind fun st' => .ret (st'.put o.dst (.one (.lit undef)))
  | .call c => match c.callee with
    | .value f => match st.ev f with
      | .p (.one (.lit (.func (.func g) fs cap))) =>
        if fs.toList.isEmpty && cap.toList.isEmpty then (cf.call cf.ro g (c.args.toList.map st.ev) st).bind fun r => .ret (St.put ⟨st.tmps, r.2.heap, r.2.facts⟩ o.dst r.1) else .fail 14
      | .clo g fs cap => (cf.call cf.ro g ((fs.map SV.p ++ c.args.toList.map st.ev) ++ cap.map SV.p) st).bind fun r => .ret (St.put ⟨st.tmps, r.2.heap, r.2.facts⟩ o.dst r.1)
      | _ => .fail 4
    | .builtin b => match builtS TB b c.argTypes (c.args.toList.map st.ev) with
      | some v => .ret (st.put o.dst v)
      | none => match c.args.toList.map st.ev with
        | [x, y] => match mmS b x y with
          | some (ds, rq, n, a, e) => DT.mks ds (rq.foldr (fun q k => .req q.1 q.2 k) (splitOn st n false fun t st => .ret (st.put o.dst (.one (match t with | true => a | false => e)))))
          | none => .fail 16
        | _ => .fail 17
    | _ => .fail 5
  | .pick c x y => match st.ev c with
    | .p (.one (.lit (.bool b))) => .ret (st.put o.dst (match b with | true => st.ev x | false => st.ev y))
    | .p (.one (.bool n g)) => splitOn st n g fun b st => .ret (st.put o.dst (match b with | true => st.ev x | false => st.ev y))
    | _ => .fail 15
  | op => match pureOp TB op st.ev st.heap with
    | some (ds, rq, v) => DT.mks ds (rq.foldr (fun q k => .req q.1 q.2 k) (.ret (st.put o.dst v)))
    | none => .fail 6

noncomputable def guardS (ops : Array Oper) (st : St) (j : Nat) : Option SV := ((ops.toList[j]?).bind (·.dst)).bind (st.tmps.get? ·)

noncomputable def opDT (TB : Tab) (cf : CF) (ops : Array Oper) (o : Oper) (st : St) : DT St :=
  match o.guard with
  | none => opDo TB cf o st
  | some (j, want) => match guardS ops st j with
    | some (.p (.one (.lit (.bool b)))) => if b == want then opDo TB cf o st else .ret (st.put o.dst (.one (.lit undef)))
    | some (.p (.one (.lit (.tuple _)))) => .ret (st.put o.dst (.one (.lit undef)))
    | some (.p (.one (.bool n g))) => splitOn st n g fun b st => if b == want then opDo TB cf o st else .ret (st.put o.dst (.one (.lit undef)))
    | _ => .fail 7

noncomputable def opsDT (TB : Tab) (cf : CF) (ops : Array Oper) : List Oper → St → DT St
  | [], st => .ret st
  | o :: rest, st => (opDT TB cf ops o st).bind (opsDT TB cf ops rest)

noncomputable def iterDT (f : St → DT (Ex × St)) : Nat → St → DT (Ex × St)
  | 0, _ => .fail 8
  | n + 1, st => (f st).bind fun r => match r.1 with
    | .normal => iterDT f n r.2
    | e => .ret (e, r.2)

/-- What a region that draws its order gives (how: in another text). -/
abbrev DF := Array Oper → St → DT St

/-! ### What it means -/

structure StM (ρ : Nat → NV) (w0 : W0) (β : List Nat) (st : St) (a : Act) (w : World) : Prop where
  tmps : TM ρ β st.tmps a.tmps
  heap : HeapM ρ w0 β st.heap w
  stays : Stays w0.w w
  facts : ∀ c x, (c, x) ∈ st.facts → (ρ c).gb = x
  defers : a.defers = []

/-- A function that has a text, or one that the model gives. -/
noncomputable def RunsOr (P : Program) (g : FuncId) (vs : Array Value) (w : World) (R : Ending → World → Prop) : Prop :=
  ((∃ fn, P.funcs[g]? = some fn ∧ (fn.name == "runtime.NumGoroutine") = false ∧ fn.body.isNone = false) ∧ Calls P g vs w R) ∨
  (∃ v w', (callFunc g vs).run P w = .ok (.value v) w' ∧ R (.returned v) w')

theorem enters {P : Program} {g : FuncId} {vs : Array Value} {w : World} (h : ∃ fn, P.funcs[g]? = some fn ∧ (fn.name == "runtime.NumGoroutine") = false ∧ fn.body.isNone = false) : (callFunc g vs).run P w = .ok (.enter g vs) w := by
  obtain ⟨fn, hfn, hname, hbody⟩ := h
  have hname' : ¬ fn.name = "runtime.NumGoroutine" := by simpa using hname
  have hbody' : ¬ fn.body = none := by intro e; rw [e] at hbody; cases hbody
  simp [callFunc, hfn, hname', hbody']

/-- What is asked of a call's meaning. -/
noncomputable def CFok (P : Program) (Φ : Syms) (ρ : Nat → NV) (cf : CF) : Prop :=
  ∀ (g : FuncId) (args : List SV) (st : St) (w0 : W0) (β : List Nat) (vs : Array Value) (a : Act) (w : World) (Q : SV × St → Prop), StM ρ w0 β st a w → all2 (SVm ρ β) args vs.toList → (cf.call w0.ro g args st).holds Φ ρ Q →
    RunsOr P g vs w fun e w' => ∃ v r γ, e = .returned v ∧ Q r ∧ SVm ρ (β ++ γ) r.1 v ∧ HeapM ρ w0 (β ++ γ) r.2.heap w' ∧ Stays w0.w w' ∧ (∀ c x, (c, x) ∈ r.2.facts → (ρ c).gb = x)

noncomputable def DFok (P : Program) (Φ : Syms) (ρ : Nat → NV) (ro : Nat) (df : DF) : Prop :=
  ∀ (id : Nat) (ops : Array Oper) (st : St) (w0 : W0) (β : List Nat) (a : Act) (w : World) (Q : Exit → Act → World → Prop), ro = w0.ro → StM ρ w0 β st a w →
    (df ops st).holds Φ ρ (fun st' => ∀ γ a' w', StM ρ w0 (β ++ γ) st' a' w' → Q .normal a' w') → (Code.region id ops true).wp P Q a w

section
variable {Φ : Syms} {ρ : Nat → NV} {P : Program} {TB : Tab} {cf : CF} {df : DF} {w0 : W0} {β : List Nat} {st : St} {a : Act} {w : World}

theorem StM.ev (H : StM ρ w0 β st a w) (x : Operand) : SVm ρ β (st.ev x) (a.eval x) := by
  cases x with
  | tmp t =>
    have := H.tmps.get t
    simpa [St.ev, Act.eval, Array.getD_eq_getD_getElem?] using this
  | const v => exact svOf_m ρ β v
  | global g => exact rfl
  | func f => exact rfl

theorem StM.evs (H : StM ρ w0 β st a w) : ∀ l : List Operand, all2 (SVm ρ β) (l.map st.ev) (l.map a.eval)
  | [] => trivial
  | x :: l => ⟨H.ev x, H.evs l⟩

theorem StM.put (H : StM ρ w0 β st a w) (d : Option Tmp) {s : SV} {v : Value} (h : SVm ρ β s v) : StM ρ w0 β (st.put d s) (a.put d v) w := by
  cases d with
  | none => exact H
  | some d =>
    refine ⟨?_, H.heap, H.stays, H.facts, H.defers⟩
    have := H.tmps.set d h
    simpa [St.put, Act.put] using this

theorem StM.drewN (H : StM ρ w0 β st a w) (n : Nat) : StM ρ w0 β st a (w.drewN n) :=
  ⟨H.tmps, H.heap.on ((Stays.refl w).drewN n), H.stays.drewN n, H.facts, H.defers⟩

theorem known_ok {n : Nat} {x : Bool} : ∀ {l : List (Nat × Bool)}, known n l = some x → (n, x) ∈ l
  | [], h => by cases h
  | (m, y) :: r, h => by
    unfold known at h
    split at h
    · rename_i hm
      cases h
      rw [Nat.eq_of_beq_eq_true hm]
      exact List.mem_cons_self
    · exact List.mem_cons_of_mem _ (known_ok h)

theorem splitOn_ok {α : Type} {n : Nat} {neg : Bool} {f : Bool → St → DT α} {Q : α → Prop} (H : StM ρ w0 β st a w) (h : (splitOn st n neg f).holds Φ ρ Q) :
    ∃ st', st'.tmps = st.tmps ∧ st'.heap = st.heap ∧ StM ρ w0 β st' a w ∧ (f ((ρ n).gb != neg) st').holds Φ ρ Q := by
  unfold splitOn at h
  cases hk : known n st.facts with
  | some x =>
    rw [hk] at h
    have := H.facts _ _ (known_ok hk)
    subst this
    exact ⟨st, rfl, rfl, H, h⟩
  | none =>
    rw [hk] at h
    simp only [DT.holds] at h
    split at h
    · rename_i hb
      refine ⟨⟨st.tmps, st.heap, (n, true) :: st.facts⟩, rfl, rfl, ⟨H.tmps, H.heap, H.stays, ?_, H.defers⟩, by rw [hb]; exact h⟩
      intro c x hc
      rcases List.mem_cons.1 hc with he | hc
      · cases he; exact hb
      · exact H.facts _ _ hc
    · rename_i hb
      have hb' : (ρ n).gb = false := by simpa using hb
      refine ⟨⟨st.tmps, st.heap, (n, false) :: st.facts⟩, rfl, rfl, ⟨H.tmps, H.heap, H.stays, ?_, H.defers⟩, by rw [hb']; exact h⟩
      intro c x hc
      rcases List.mem_cons.1 hc with he | hc
      · cases he; exact hb'
      · exact H.facts _ _ hc

theorem oneCell_of {s : SS} {x : Value} (h : SSm ρ β s x) (hs : okCell s = true) : x.oneCell' = true := by
  cases s with
  | lit v => obtain rfl : x = v := h; exact hs
  | flt k n => obtain ⟨r, rfl, _⟩ := h; rfl
  | int k n => obtain rfl : x = _ := h; rfl
  | bool n g => obtain rfl : x = _ := h; rfl
  | ptr b o => obtain ⟨p, _, rfl⟩ := h; rfl
  | slc b o u v => obtain ⟨p, _, rfl⟩ := h; rfl
  | unk => cases hs

theorem oneCells_of : ∀ {l : List SS} {m : List Value}, all2 (SSm ρ β) l m → l.all okCell = true → ∀ v ∈ m, v.oneCell' = true
  | [], [], _, _, v, hv => by simp at hv
  | s :: l, x :: m, ⟨h1, h2⟩, h, v, hv => by
    simp only [List.all_cons, Bool.and_eq_true] at h
    rcases List.mem_cons.1 hv with rfl | hv
    · exact oneCell_of h1 h.1
    · exact oneCells_of h2 h.2 v hv

theorem cellsS_ok {s : SV} {l : List SS} {v : Value} (h : cellsS s = some l) (hv : SVm ρ β s v) : all2 (SSm ρ β) l v.cells.toList ∧ ∀ c ∈ v.cells.toList, c.oneCell' = true := by
  unfold cellsS at h
  split at h
  · rename_i s
    split at h
    · rename_i hs
      cases h
      have h1 := oneCell_of hv hs
      have : v.cells = #[v] := by cases v <;> first | rfl | (simp [Value.oneCell'] at h1)
      rw [this]
      exact ⟨⟨hv, trivial⟩, fun c hc => by simp at hc; rw [hc]; exact h1⟩
    · cases h
  · rename_i l'
    split at h
    · rename_i hs
      cases h
      obtain ⟨cs, rfl, hl⟩ := hv
      exact ⟨hl, oneCells_of hl hs⟩
    · cases h
  · cases h
  · cases h

/-- A new block. -/
theorem HeapM.push {B : W0} {heap : List Blk} (H : HeapM ρ B β heap w) (hB : B.w.heap.size ≤ w.heap.size) {l : List SS} {cs : Array Value} {t : TypeId} (hl : all2 (SSm ρ β) l cs.toList) :
    HeapM ρ B (β ++ [w.heap.size]) (heap ++ [⟨l, t⟩]) (w.alloc (.cells cs t)) := by
  have hlt : ∀ p ∈ β, p < w.heap.size := fun p hp => by
    obtain ⟨b, hb⟩ := List.getElem?_of_mem hp
    have hb' : b < heap.length := by rw [← H.len]; exact (List.getElem?_eq_some_iff.1 hb).1
    obtain ⟨p', cs', h1, h2, _⟩ := H.at_ b heap[b] (List.getElem?_eq_getElem hb')
    obtain rfl : p = p' := by rw [hb] at h1; exact Option.some.inj h1
    exact (Array.getElem?_eq_some_iff.1 h2).1
  refine ⟨by simp [H.len], ?_, ?_, ?_⟩
  · rw [List.nodup_append]
    refine ⟨H.nodup, by simp, fun p hp q hq => ?_⟩
    simp at hq
    have := hlt p hp
    omega
  · intro b p hb hp
    by_cases hlt' : b < β.length
    · rw [List.getElem?_append_left hlt'] at hp
      exact H.own b p hb hp
    · rw [List.getElem?_append_right (by omega)] at hp
      have := List.mem_of_getElem? hp
      simp at this
      omega
  · intro b k hk
    by_cases hb : b < heap.length
    · rw [List.getElem?_append_left hb] at hk
      obtain ⟨p, cs', h1, h2, h3⟩ := H.at_ b k hk
      refine ⟨p, cs', ?_, heap_under w _ p (Array.getElem?_eq_some_iff.1 h2).1 h2, h3.mono fun _ _ => SSm.ext _⟩
      rw [List.getElem?_append_left (by rw [H.len]; exact hb)]
      exact h1
    · have hb' : b = heap.length := by
        have := (List.getElem?_eq_some_iff.1 hk).1
        simp at this
        omega
      subst hb'
      simp at hk
      subst hk
      refine ⟨w.heap.size, cs, ?_, heap_top w _ _ rfl, hl.mono fun _ _ => SSm.ext _⟩
      rw [← H.len]
      simp

theorem run_storeVar_any {b o : Nat} {ty : TypeId} {v : Value} (ht : w.there b o v.cells.size) (hi : (P.info? ty).map (·.size) = some v.cells.size) (h1 : ∀ c ∈ v.cells.toList, c.oneCell' = true) :
    (Instr.storeAt ty (.pointer (some ⟨b, o, none⟩)) v).run P w = .ok () (w.setCells b o v.cells.toList) := by
  have := run_storeCells_cells (P := P) b o v.cells.toList 0 w (fun j hj => by simpa using (ht j (by simpa using hj)).1) (fun j hj => by simpa using (ht j (by simpa using hj)).2) h1
  cases hq : P.info? ty with
  | none => simp [hq] at hi
  | some i =>
    have hs : v.cells.size = i.size := by simp [hq] at hi; omega
    simp only [Nat.add_zero] at this
    simp [Instr.storeAt, Instr.sureAddr, storeVar, sizeOf, typeInfo, hq, hs, this]

theorem nodup_inj {l : List Nat} (h : l.Nodup) {i j x : Nat} (hi : l[i]? = some x) (hj : l[j]? = some x) : i = j := by
  obtain ⟨i1, e1⟩ := List.getElem?_eq_some_iff.1 hi
  obtain ⟨j1, e2⟩ := List.getElem?_eq_some_iff.1 hj
  have hp := List.pairwise_iff_getElem.1 h
  rcases Nat.lt_trichotomy i j with hlt | heq | hgt
  · exact absurd (e1.trans e2.symm) (hp i j i1 j1 hlt)
  · exact heq
  · exact absurd (e2.trans e1.symm) (hp j i j1 i1 hgt)

theorem storeS_ok (hT : TabOK P TB) {t : TypeId} {x v : SV} {vx vv : Value} {Q : St → Prop} (H : StM ρ w0 β st a w) (h : (storeS TB w0.ro t x v st).holds Φ ρ Q) (hx : SVm ρ β x vx) (hv : SVm ρ β v vv) :
    ∃ w' st', (Instr.storeAt t vx vv).run P w = .ok () w' ∧ StM ρ w0 β st' a w' ∧ Q st' := by
  unfold storeS at h
  split at h
  · rename_i b off l ti hl hti
    split at h
    · rename_i blk hb
      split at h
      · rename_i hc
        simp only [Bool.and_eq_true] at hc
        have hc0 := Nat.le_of_ble_eq_true hc.1
        replace hc := hc.2
        have hc1 := Nat.eq_of_beq_eq_true hc.1
        have hc2 := Nat.le_of_ble_eq_true hc.2
        obtain ⟨p, hp, rfl⟩ := hx
        obtain ⟨p', cs, hp', hg, hcs⟩ := H.heap.at_ b blk hb
        obtain rfl : p = p' := by rw [hp] at hp'; exact Option.some.inj hp'
        obtain ⟨hlv, h1⟩ := cellsS_ok hl hv
        obtain ⟨_, hs, _⟩ := hT _ _ hti
        have hlen : vv.cells.size = l.length := by rw [← Array.length_toList, ← hlv.length]
        have hcl : blk.cells.length = cs.size := by rw [← Array.length_toList, ← hcs.length]
        have hth : w.there p off vv.cells.size := fun j hj => by
          have e : w.cell? ⟨p, off + j, none⟩ = cs[off + j]? := cell_of_row w p (off + j) cs blk.t (0, 0) hg
          refine ⟨?_, frozen_of_row w p (off + j) cs blk.t hg⟩
          rw [e]
          have : off + j < cs.size := by omega
          simp [this]
        have hrun := run_storeVar_any (P := P) (ty := t) hth (by rw [hs, hlen, hc1]) h1
        obtain ⟨a1, a2, a3, a4, a5, a6⟩ := setCells_heap p blk.t vv.cells.toList off cs w hg
        have hpo : w0.w.heap.size ≤ p := H.heap.own b p hc0 hp
        refine ⟨_, ⟨st.tmps, st.heap.set b ⟨blk.cells.take off ++ (l ++ blk.cells.drop (off + l.length)), blk.t⟩, st.facts⟩, hrun, ⟨H.tmps, ⟨?_, H.heap.nodup, H.heap.own, ?_⟩, Below.trans H.stays ⟨a4, a5, a6, by omega, fun k hk => a2 k (by omega)⟩, H.facts, H.defers⟩, h⟩
        · simp [H.heap.len]
        · intro b' k hk
          replace hk : (st.heap.set b ⟨blk.cells.take off ++ (l ++ blk.cells.drop (off + l.length)), blk.t⟩)[b']? = some k := hk
          by_cases hbb : b' = b
          · subst hbb
            have hbl : b' < st.heap.length := (List.getElem?_eq_some_iff.1 hb).1
            rw [List.getElem?_set_self hbl] at hk
            cases hk
            refine ⟨p, _, hp, a1, ?_⟩
            rw [splice_list _ _ _ (by simp; omega)]
            have hll : vv.cells.toList.length = l.length := by simp [hlen]
            rw [hll]
            exact (hcs.take off).append (hlv.append (hcs.drop _))
          · rw [List.getElem?_set_ne (fun e => hbb e.symm)] at hk
            obtain ⟨q, cs', h1', h2', h3'⟩ := H.heap.at_ b' k hk
            refine ⟨q, cs', h1', ?_, h3'⟩
            rw [a2 q ?_]
            · exact h2'
            · intro e
              subst e
              apply hbb
              exact nodup_inj H.heap.nodup h1' hp
      · exact h.elim
    · exact h.elim
  · exact h.elim

theorem reqs_ok {α : Type} {Q : α → Prop} {k : DT α} : ∀ rq : List (Nat × Nat), (rq.foldr (fun q k => DT.req q.1 q.2 k) k).holds Φ ρ Q → (∀ q ∈ rq, Asked q.1 (ρ q.2)) ∧ k.holds Φ ρ Q
  | [], h => ⟨fun q hq => by simp at hq, h⟩
  | q :: r, h => by
    obtain ⟨h1, h2⟩ := reqs_ok r h.2
    refine ⟨fun q' hq => ?_, h2⟩
    rcases List.mem_cons.1 hq with rfl | hq
    · exact h.1
    · exact h1 q' hq

theorem all2_p {l : List SP} {vs : List Value} : all2 (SPm ρ β) l vs → all2 (SVm ρ β) (l.map SV.p) vs := by
  intro h
  induction l generalizing vs with
  | nil => cases vs <;> first | trivial | exact h.elim
  | cons x l ih =>
    cases vs with
    | nil => exact h.elim
    | cons v vs => exact ⟨h.1, ih h.2⟩

/-- A call, by what it is told to run. -/
theorem call_ok (hcf : CFok P Φ ρ cf) (hro : cf.ro = w0.ro) {o : Oper} {g : FuncId} {args : List SV} {vs : Array Value} {K : Act → World → Prop} {Q : Exit → Act → World → Prop} (H : StM ρ w0 β st a w) (hargs : all2 (SVm ρ β) args vs.toList)
    (hex : ∀ w, (execOp a.eval o).run P w = (callFunc g vs).run P w)
    (h : (cf.call cf.ro g args st).holds Φ ρ fun r => ∀ γ a' w', StM ρ w0 (β ++ γ) (St.put ⟨st.tmps, r.2.heap, r.2.facts⟩ o.dst r.1) a' w' → K a' w') : o.wp P a w K Q := by
  rw [hro] at h
  rcases hcf g _ st w0 β _ a w _ H hargs h with ⟨hf', hcall⟩ | ⟨v, w', hcall, hpost⟩
  · have hrun : (execOp a.eval o).run P w = .ok (.enter g vs) w := by
      rw [hex]; exact enters hf'
    unfold Oper.wp
    rw [hrun]
    show Calls P g _ w _
    refine hcall.mono ?_
    rintro e w' ⟨v, r, γ, rfl, hQ, hr, hh, hs, hfa⟩
    refine hQ γ _ _ (StM.put (st := ⟨st.tmps, r.2.heap, r.2.facts⟩) ⟨H.tmps.ext _, hh, hs, hfa, H.defers⟩ o.dst hr)
  · obtain ⟨v', r, γ, e', hQ, hr, hh, hs, hfa⟩ := hpost
    cases e'
    have hrun : (execOp a.eval o).run P w = .ok (.value v) w' := by rw [hex, hcall]
    unfold Oper.wp
    rw [hrun]
    exact hQ γ _ _ (StM.put (st := ⟨st.tmps, r.2.heap, r.2.facts⟩) ⟨H.tmps.ext _, hh, hs, hfa, H.defers⟩ o.dst hr)

/-- One operation that is wanted. -/
theorem opDo_ok (hT : TabOK P TB) (hcf : CFok P Φ ρ cf) (hro : cf.ro = w0.ro) {o : Oper} {K : Act → World → Prop} {Q : Exit → Act → World → Prop} (H : StM ρ w0 β st a w)
    (h : (opDo TB cf o st).holds Φ ρ (fun st' => ∀ γ a' w', StM ρ w0 (β ++ γ) st' a' w' → K a' w')) : o.wp P a w K Q := by
  unfold opDo at h
  split at h
  · rename_i t hop
    cases ht : TB t with
    | none => rw [ht] at h; exact h.elim
    | some ti =>
      rw [ht] at h
      simp only at h
      obtain ⟨hu, hs, hz⟩ := hT _ _ ht
      cases hl : cellsS (svOf ti.zero) with
      | none => rw [hl] at h; exact h.elim
      | some l =>
        rw [hl] at h
        obtain ⟨hlv, _⟩ := cellsS_ok hl (svOf_m ρ β ti.zero)
        have hrun : (Instr.alloc t true (.tuple #[])).run P w = .ok (.pointer (some ⟨w.heap.size, 0, none⟩)) (w.alloc (.cells ti.zero.cells t)) := by
          cases hq : P.info? t with
          | none => simp [hq] at hs
          | some it =>
            have hz' : it.zero = some ti.zero := by simpa [hq] using hz
            simp [Instr.alloc, zeroValue, typeInfo, hq, hz', newVar, newRow]
        unfold Oper.wp
        simp [execOp, hop, hrun, Result.andThen]
        refine h [w.heap.size] _ _ (StM.put (st := ⟨st.tmps, st.heap ++ [⟨l, t⟩], st.facts⟩) ⟨H.tmps.ext _, ?_, H.stays.alloc _, H.facts, H.defers⟩ o.dst (s := .one (.ptr st.heap.length 0)) (show SSm ρ _ (.ptr st.heap.length 0) _ from ⟨w.heap.size, ?_, rfl⟩))
        · exact H.heap.push H.stays.size hlv
        · rw [← H.heap.len]; simp
  · rename_i t x hop
    cases hl : cellsS (st.ev x) with
    | none => rw [hl] at h; exact h.elim
    | some l =>
      rw [hl] at h
      obtain ⟨hlv, _⟩ := cellsS_ok hl (H.ev x)
      unfold Oper.wp
      simp [execOp, hop, Instr.box, newVar, newRow, Result.andThen]
      refine h [w.heap.size] _ _ (StM.put (st := ⟨st.tmps, st.heap ++ [⟨l, t⟩], st.facts⟩) ⟨H.tmps.ext _, ?_, H.stays.alloc _, H.facts, H.defers⟩ o.dst (s := .one (.ptr st.heap.length 0)) (show SSm ρ _ (.ptr st.heap.length 0) _ from ⟨w.heap.size, ?_, rfl⟩))
      · exact H.heap.push H.stays.size hlv
      · rw [← H.heap.len]; simp
  · rename_i t x y hop
    have h := DT.holds_bind _ h
    rw [hro] at h
    obtain ⟨w', st', hrun, hst, hq⟩ := storeS_ok hT H h (H.ev x) (H.ev y)
    unfold Oper.wp
    simp [execOp, hop, hrun, Result.andThen]
    have := hq [] _ _ (by simpa using hst.put o.dst (s := .one (.lit undef)) (v := undef) rfl)
    exact this
  · rename_i c hop
    split at h
    · rename_i f hf
      split at h
      · rename_i g fs cap hg
        split at h
        case isFalse => exact h.elim
        rename_i he
        simp only [Bool.and_eq_true, List.isEmpty_iff, Array.toList_eq_nil_iff] at he
        obtain ⟨rfl, rfl⟩ := he
        have h := DT.holds_bind _ h
        have hv : a.eval f = .func (.func g) #[] #[] := by have := H.ev f; rw [hg] at this; exact this
        have hargs : all2 (SVm ρ β) (c.args.toList.map st.ev) (c.args.map a.eval).toList := by simpa using H.evs c.args.toList
        exact call_ok (vs := c.args.map a.eval) hcf hro H hargs (fun w => by simp [execOp, hop, resolve, hf, hv, Deferred.ofValue, invoke]) h
      · rename_i g fs cap hg
        have h := DT.holds_bind _ h
        obtain ⟨fv, cv, hv, hfv, hcv⟩ : ∃ fv cv, a.eval f = .func (.func g) fv cv ∧ all2 (SPm ρ β) fs fv.toList ∧ all2 (SPm ρ β) cap cv.toList := by have := H.ev f; rw [hg] at this; exact this
        have hargs : all2 (SVm ρ β) ((fs.map SV.p ++ c.args.toList.map st.ev) ++ cap.map SV.p) ((fv ++ c.args.map a.eval) ++ cv).toList := by
          simpa using ((all2_p hfv).append (H.evs c.args.toList)).append (all2_p hcv)
        exact call_ok (vs := (fv ++ c.args.map a.eval) ++ cv) hcf hro H hargs (fun w => by simp [execOp, hop, resolve, hf, hv, Deferred.ofValue, invoke]) h
      · exact h.elim
    · rename_i b hb
      have hargs : all2 (SVm ρ β) (c.args.toList.map st.ev) (c.args.map a.eval).toList := by simpa using H.evs c.args.toList
      split at h
      · rename_i r hr
        obtain ⟨v, hv, hm⟩ := builtS_ok (w := w) (t := o.type) (cs := c.args.map fun | .const _ => true | _ => false) hT hr hargs
        have hrun : (execOp a.eval o).run P w = .ok (.value v) w := by
          simp only [execOp, hop, resolve, hb]
          simp only [Sem.run_bind, Sem.run_pure, Result.andThen_ok, invoke]
          exact hv
        unfold Oper.wp
        rw [hrun]
        have := h [] _ _ (by simpa using H.put o.dst hm)
        exact this
      split at h
      case h_2 => exact h.elim
      rename_i x y hxy
      rw [hxy] at hargs
      obtain ⟨vx, vy, hvs, hx, hy⟩ : ∃ vx vy, (c.args.map a.eval).toList = [vx, vy] ∧ SVm ρ β x vx ∧ SVm ρ β y vy := by
        match hl : (c.args.map a.eval).toList, hargs with
        | [vx, vy], ⟨h1, h2, _⟩ => exact ⟨vx, vy, rfl, h1, h2⟩
      have hva : c.args.map a.eval = #[vx, vy] := by
        apply Array.toList_inj.1
        simpa using hvs
      have hrun : ∀ v, (b = .min ∨ b = .max) → (mmRun b c.argTypes o.type #[vx, vy]).run P w = .ok v w → (execOp a.eval o).run P w = .ok (.value v) w := by
        intro v hbm hr
        rcases hbm with rfl | rfl
        · have hr : (Builtin.min_ c.argTypes o.type #[vx, vy]).run P w = .ok v w := hr
          simp [execOp, hop, resolve, hb, hva, invoke, builtin, hr, Result.andThen]
        · have hr : (Builtin.max_ c.argTypes o.type #[vx, vy]).run P w = .ok v w := hr
          simp [execOp, hop, resolve, hb, hva, invoke, builtin, hr, Result.andThen]
      split at h
      · rename_i ds rq n p e hp
        obtain ⟨hd, h⟩ := DT.holds_mks _ _ h
        obtain ⟨hq, h⟩ := reqs_ok _ h
        obtain ⟨st', ht, hh, H', h⟩ := splitOn_ok H h
        obtain ⟨hbm, v, hr, hm⟩ := mmS_ok (P := P) (w := w) (ts := c.argTypes) (t := o.type) hp hd hq hx hy
        unfold Oper.wp
        rw [hrun v hbm hr]
        have hm' : SVm ρ β (.one (match (ρ n).gb != false with | true => p | false => e)) v := by
          rw [show ((ρ n).gb != false) = (ρ n).gb by simp]
          exact hm
        have := h [] _ _ (by simpa using H'.put o.dst hm')
        exact this
      · exact h.elim
    · exact h.elim
  · rename_i c x y hop
    have hc := H.ev c
    have fin : ∀ (b : Bool) (st' : St), st'.tmps = st.tmps → StM ρ w0 β st' a w → a.eval c = .bool b → (∀ γ a' w', StM ρ w0 (β ++ γ) (st'.put o.dst (match b with | true => st'.ev x | false => st'.ev y)) a' w' → K a' w') → o.wp P a w K Q := by
      intro b st' ht H' hcb hk
      unfold Oper.wp
      cases b with
      | true =>
        simp [execOp, hop, hcb, asBool, Result.andThen]
        have := hk [] _ _ (by simpa using H'.put o.dst (H'.ev x))
        exact this
      | false =>
        simp [execOp, hop, hcb, asBool, Result.andThen]
        have := hk [] _ _ (by simpa using H'.put o.dst (H'.ev y))
        exact this
    split at h
    · rename_i b hb
      rw [hb] at hc
      exact fin b st rfl H hc h
    · rename_i n g hb
      rw [hb] at hc
      obtain ⟨st', h1, h2, H', h⟩ := splitOn_ok H h
      exact fin _ st' h1 H' hc h
    · exact h.elim
  · rename_i op h1 h2 h3 h4 h5
    split at h
    · rename_i ds rq v hp
      obtain ⟨hd, h⟩ := DT.holds_mks _ _ h
      obtain ⟨hq, h⟩ := reqs_ok _ h
      obtain ⟨u, n, hrun, hm⟩ := pureOp_ok (w := w) hT H.heap.at_ hp hd hq H.ev
      unfold Oper.wp
      rw [hrun]
      have := h [] _ _ (by simpa using (H.drewN n).put o.dst hm)
      exact this
    · exact h.elim

theorem opDT_ok (hT : TabOK P TB) (hcf : CFok P Φ ρ cf) (hro : cf.ro = w0.ro) {ops : Array Oper} {o : Oper} {K : Act → World → Prop} {Q : Exit → Act → World → Prop} (H : StM ρ w0 β st a w)
    (h : (opDT TB cf ops o st).holds Φ ρ (fun st' => ∀ γ a' w', StM ρ w0 (β ++ γ) st' a' w' → K a' w')) :
    if Region.wanted o (yielded ops a.tmps) then o.wp P a w K Q else K (a.put o.dst undef) w := by
  unfold opDT at h
  cases hg : o.guard with
  | none =>
    rw [hg] at h
    rw [if_pos (by simp [Region.wanted, hg])]
    exact opDo_ok hT hcf hro H h
  | some jw =>
    obtain ⟨j, want⟩ := jw
    rw [hg] at h
    simp only at h
    have hy : ∀ s, guardS ops st j = some s → ∃ v, SVm ρ β s v ∧ yielded ops a.tmps j = match v with | .bool b => some b | _ => none := by
      intro s hs
      unfold guardS at hs
      obtain ⟨d, hd, hs⟩ := Option.bind_eq_some_iff.1 hs
      obtain ⟨v, hv, hm⟩ := H.tmps.get? hs
      refine ⟨v, hm, ?_⟩
      have hd' : (ops[j]?).bind (·.dst) = some d := by simpa using hd
      have hv' : a.tmps[d]? = some v := hv
      unfold yielded
      rw [hd']
      simp only [Option.bind_some, hv']
      cases v <;> rfl
    have hskip : (yielded ops a.tmps j ≠ some want) → (∀ γ a' w', StM ρ w0 (β ++ γ) (st.put o.dst (.one (.lit undef))) a' w' → K a' w') →
        if Region.wanted o (yielded ops a.tmps) then o.wp P a w K Q else K (a.put o.dst undef) w := by
      intro hne hk
      rw [if_neg (by simpa [Region.wanted, hg] using hne)]
      exact hk [] _ _ (by simpa using H.put o.dst (s := .one (.lit undef)) (v := undef) rfl)
    split at h
    · rename_i b hb
      obtain ⟨v, hm, hyv⟩ := hy _ hb
      obtain rfl : v = .bool b := hm
      simp only at hyv
      split at h
      · rename_i hbw
        obtain rfl : b = want := by simpa using hbw
        rw [if_pos (by simp [Region.wanted, hg, hyv])]
        exact opDo_ok hT hcf hro H h
      · rename_i hbw
        exact hskip (by rw [hyv]; simpa using hbw) h
    · rename_i cs hb
      obtain ⟨v, hm, hyv⟩ := hy _ hb
      obtain rfl : v = .tuple cs := hm
      simp only at hyv
      exact hskip (by rw [hyv]; simp) h
    · rename_i n g hb
      obtain ⟨v, hm, hyv⟩ := hy _ hb
      obtain rfl : v = .bool ((ρ n).gb != g) := hm
      simp only at hyv
      obtain ⟨st', ht, hh, H', h⟩ := splitOn_ok H h
      split at h
      · rename_i hbw
        have hbw' : ((ρ n).gb != g) = want := by simpa using hbw
        rw [if_pos (by rw [hbw'] at hyv; simp [Region.wanted, hg, hyv])]
        exact opDo_ok hT hcf hro H' h
      · rename_i hbw
        have hbw' : ((ρ n).gb != g) ≠ want := by simpa using hbw
        rw [if_neg (by simpa [Region.wanted, hg, hyv] using hbw')]
        exact h [] _ _ (by simpa using H'.put o.dst (s := .one (.lit undef)) (v := undef) rfl)
    · exact h.elim

theorem opsDT_ok (hT : TabOK P TB) (hcf : CFok P Φ ρ cf) (hro : cf.ro = w0.ro) {ops : Array Oper} {Q : Exit → Act → World → Prop} : ∀ (l : List Oper) (st : St) (β : List Nat) (a : Act) (w : World), StM ρ w0 β st a w →
    (opsDT TB cf ops l st).holds Φ ρ (fun st' => ∀ γ a' w', StM ρ w0 (β ++ γ) st' a' w' → Q .normal a' w') → wpList P ops Q l a w
  | [], st, β, a, w, H, h => h [] a w (by simpa using H)
  | o :: l, st, β, a, w, H, h => by
    refine wpList_step fun K hK => ?_
    refine opDT_ok hT hcf hro H (DT.holds_mono ?_ _ (DT.holds_bind _ h))
    intro st' hst' γ a' w' H'
    refine hK _ _ (opsDT_ok hT hcf hro l st' (β ++ γ) a' w' H' (DT.holds_mono ?_ _ hst'))
    intro st'' h'' γ' a'' w'' H''
    exact h'' (γ ++ γ') a'' w'' (by rw [← List.append_assoc]; exact H'')

/-- The end of a way: what is asked of the goal. -/
abbrev Ends (ρ : Nat → NV) (w0 : W0) (β : List Nat) (Q : Exit → Act → World → Prop) (r : Ex × St) : Prop := ∀ γ a' w', StM ρ w0 (β ++ γ) r.2 a' w' → Q r.1.to a' w'

theorem Ends.on {Q : Exit → Act → World → Prop} {r : Ex × St} {γ : List Nat} (h : Ends ρ w0 β Q r) : Ends ρ w0 (β ++ γ) Q r :=
  fun γ' a' w' H => h (γ ++ γ') a' w' (by rw [← List.append_assoc]; exact H)

end
end Go.Proofs.Ytcopccniijkceaa
