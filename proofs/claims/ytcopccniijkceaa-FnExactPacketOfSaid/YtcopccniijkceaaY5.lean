/- A symbolic walk: regions that draw their order. No condition. -/
import Derived.Test.YtcopccniijkceaaY4c
import Derived.Test.YtcopccniijkceaaSk
import Derived.Test.YtcopccniijkceaaSs
import Derived.Test.YtcopccniijkceaaSm
namespace Go.Proofs.Ytcopccniijkceaa
open Go Go.RowKit
set_option linter.unusedVariables false
set_option linter.unusedSimpArgs false

noncomputable def noPtrS : SS → Bool
  | .ptr .. => false
  | .slc .. => false
  | _ => true
noncomputable def noPtrP : SP → Bool
  | .one s => noPtrS s
  | .agg l => l.all noPtrS
noncomputable def noPtr : SV → Bool
  | .p x => noPtrP x
  | .tup l => l.all noPtrP
  | .clo _ f c => f.all noPtrP && c.all noPtrP

structure Sft where
  st : St
  log : List (Nat × SV)

noncomputable def allocOf (o : Oper) : Option (Tmp × TypeId) :=
  match o.guard, o.dst, o.op with
  | none, some d, .alloc t => some (d, t)
  | _, _, _ => none

noncomputable def softDo (TB : Tab) (cf : CF) (o : Oper) (s : Sft) : DT Sft :=
  match o.op with
  | .alloc _ => match allocOf o with
    | some (d, _) => .ret ⟨s.st.put (some d) (.one (.ptr s.st.heap.length 0)), s.log⟩
    | none => .fail 21
  | .store .. | .box .. | .pick .. => .fail 22
  | .call c => match c.callee, o.dst with
    | .value f, some d => match s.st.ev f with
      | .p (.one (.lit (.func (.func g) fs cap))) =>
        if fs.toList.isEmpty && cap.toList.isEmpty && (c.args.toList.map s.st.ev).all (belowV s.st.heap.length) then
          (cf.call s.st.heap.length g (c.args.toList.map s.st.ev) ⟨.nil, s.st.heap, s.st.facts⟩).bind fun r => if noPtr r.1 then .ret ⟨St.put ⟨s.st.tmps, s.st.heap, r.2.facts⟩ (some d) r.1, (d, r.1) :: s.log⟩ else .fail 23
        else .fail 24
      | .clo g fs cap =>
        if ((fs.map SV.p ++ c.args.toList.map s.st.ev) ++ cap.map SV.p).all (belowV s.st.heap.length) then
          (cf.call s.st.heap.length g ((fs.map SV.p ++ c.args.toList.map s.st.ev) ++ cap.map SV.p) ⟨.nil, s.st.heap, s.st.facts⟩).bind fun r => if noPtr r.1 then .ret ⟨St.put ⟨s.st.tmps, s.st.heap, r.2.facts⟩ (some d) r.1, (d, r.1) :: s.log⟩ else .fail 23
        else .fail 24
      | _ => .fail 25
    | .builtin b, _ => match builtS TB b c.argTypes (c.args.toList.map s.st.ev) with
      | some v => .ret ⟨s.st.put o.dst v, s.log⟩
      | none => .fail 29
    | _, _ => .fail 26
  | op => match pureOp TB op s.st.ev s.st.heap with
    | some (ds, rq, v) => DT.mks ds (rq.foldr (fun q k => .req q.1 q.2 k) (.ret ⟨s.st.put o.dst v, s.log⟩))
    | none => .fail 27

noncomputable def softOp (TB : Tab) (cf : CF) (ops : Array Oper) (o : Oper) (s : Sft) : DT Sft :=
  match o.guard with
  | none => softDo TB cf o s
  | some (j, want) => match guardS ops s.st j with
    | some (.p (.one (.lit (.bool b)))) => if b == want then softDo TB cf o s else .ret ⟨s.st.put o.dst (.one (.lit undef)), s.log⟩
    | some (.p (.one (.lit (.tuple _)))) => .ret ⟨s.st.put o.dst (.one (.lit undef)), s.log⟩
    | some (.p (.one (.bool n g))) => splitOn s.st n g fun b st => if b == want then softDo TB cf o ⟨st, s.log⟩ else .ret ⟨st.put o.dst (.one (.lit undef)), s.log⟩
    | _ => .fail 28

noncomputable def softList (TB : Tab) (cf : CF) (ops : Array Oper) : List Oper → Sft → DT Sft
  | [], s => .ret s
  | o :: rest, s => (softOp TB cf ops o s).bind (softList TB cf ops rest)

noncomputable def nodupB : List Nat → Bool
  | [] => true
  | x :: r => !(r.any (Nat.beq x)) && nodupB r

noncomputable def lastN (ops : Array Oper) : Nat → Option Nat
  | 0 => none
  | n + 1 => if Region.lexTailB .any ops (n + 1) then some (n + 1) else lastN ops n

/-- How many operations come before the first one that only the tail may have. -/
noncomputable def before : List Oper → Nat
  | [] => 0
  | o :: r => match o.op with
    | .store .. | .box .. | .pick .. => 0
    | _ => before r + 1

noncomputable def isPtr : SV → Bool
  | .p (.one (.lit (.tuple _))) => false
  | .p (.one (.flt ..)) => false
  | .p (.one (.bool ..)) => false
  | .p (.one (.int ..)) => false
  | _ => true

noncomputable def clashB (e : Tmp) (l : List Oper) : Bool := l.any fun o => (allocOf o).isNone && (match o.dst with | some d => Nat.beq d e | none => false)

noncomputable def isStore (o : Oper) : Option (TypeId × Tmp × Operand) :=
  match o.guard, o.dst, o.op with
  | none, none, .store ty (.tmp d) y => some (ty, d, y)
  | _, _, _ => none

noncomputable def storeAt : Nat → List Oper → Option (Nat × Oper × TypeId × Tmp × Operand)
  | _, [] => none
  | i, o :: r => match isStore o with
    | some (ty, d, y) => some (i, o, ty, d, y)
    | none => storeAt (i + 1) r

/-- A region that stores into the block that it makes. -/
noncomputable def softSt (TB : Tab) (cf : CF) (ops : Array Oper) (i0 : Nat) (si : Oper) (ty : TypeId) (d : Tmp) (y : Operand) (st : St) : DT St :=
  match lastN (ops.toList.set i0 (K.noop si)).toArray (min (ops.size - 1) (before (ops.toList.set i0 (K.noop si)))) with
  | none => .fail 61
  | some n => if Nat.blt i0 n && K.stB .any ops.toList.toArray si d y then
    match ((ops.toList.set i0 (K.noop si)).take n).filterMap allocOf with
    | [(d', t)] => if Nat.beq d' d then match TB t, TB ty, st.tmps.get? d with
      | some ti, some tv, some v => match cellsS (svOf ti.zero) with
        | some l => if isPtr v || clashB d ((ops.toList.set i0 (K.noop si)).take n) then .fail 62 else
          (softList TB cf (ops.toList.set i0 (K.noop si)).toArray ((ops.toList.set i0 (K.noop si)).take n) ⟨st, []⟩).bind fun s =>
            match s.st.tmps.get? d, cellsS (s.st.ev y) with
            | some (.p (.one (.ptr b 0))), some lv => if nodupB (s.log.map (·.1)) && (Nat.beq b st.heap.length && (Nat.beq lv.length l.length && Nat.beq tv.size lv.length)) then opsDT TB cf ops (ops.toList.drop n) ⟨s.st.tmps, s.st.heap ++ [⟨lv, t⟩], s.st.facts⟩ else .fail 63
            | _, _ => .fail 64
        | none => .fail 65
      | _, _, _ => .fail 66
      else .fail 67
    | _ => .fail 68
    else .fail 69

noncomputable def fkOf : SV → Option FloatKind
  | .p (.one s) => fkind s
  | _ => none
noncomputable def memNat (n : Nat) : List Nat → Bool
  | [] => false
  | x :: r => Nat.beq n x || memNat n r

/-- That a late operation goes on, and gives the same, where the blocks 'bad' have been stored into. -/
noncomputable def lateOK (TB : Tab) (ev : Operand → SV) (heap : List Blk) (bad : List Nat) (o : Oper) : Bool :=
  match o.op with
  | .load t x => match ev x with
    | .p (.one (.ptr b off)) => !memNat b bad && (match loadS TB t (.p (.one (.ptr b off))) heap with
      | some _ => true
      | none => false)
    | _ => false
  | .fieldAddr t x f => match fieldAddrS TB t (ev x) f with
    | some (.p (.one (.ptr ..))) => true
    | _ => false
  | .binOp op _ x y _ => arith op && (match fkOf (ev x), fkOf (ev y) with
    | some k, some k' => Nat.beq (kn k) (kn k')
    | _, _ => false)
  | .extract x k => match ev x with
    | .tup l => Nat.blt k l.length
    | _ => false
  | .nilCheck x => match ev x with
    | .p (.one (.ptr ..)) => true
    | _ => false
  | .indexAddr t x i => match indexAddrS TB t (ev x) (ev i) with
    | some _ => true
    | none => match indexSl TB t (ev x) (ev i) with
      | some _ => true
      | none => false
  | _ => true

noncomputable def storesS (TB : Tab) (ro : Nat) (l : List Oper) : List Nat → St → DT St
  | [], st => .ret st
  | i :: r, st => match K.storeOf l i with
    | some (ty, x, y) => (storeS TB ro ty (st.ev x) (st.ev y) st).bind (storesS TB ro l r)
    | none => .fail 74

noncomputable def badOf (ev : Operand → SV) (l : List Oper) (sts : List Nat) : List Nat := sts.filterMap fun i => match K.storeOf l i with
  | some (_, x, _) => match ev x with
    | .p (.one (.ptr b _)) => some b
    | _ => none
  | none => none

noncomputable def stsOf (l : List Oper) (n : Nat) : List Nat := (List.range n).filter fun i => (K.storeOf l i).isSome

/-- The first store waits for it. -/
noncomputable def waitsOn (ops : List Oper) (sts : List Nat) (j : Nat) : Bool := match sts with
  | i0 :: _ => match ops[i0]? with
    | some o0 => K.waits .any o0 j
    | none => false
  | [] => false
noncomputable def lateAt (TB : Tab) (ev : Operand → SV) (heap : List Blk) (bad : List Nat) (ops : List Oper) (j : Nat) : Bool := match ops[j]? with
  | some o => lateOK TB ev heap bad o
  | none => false

/-- A region that stores into memory that there was. -/
noncomputable def softMs (TB : Tab) (cf : CF) (ops : Array Oper) (st : St) : DT St :=
  match lastN (ops.toList.map K.nz).toArray (min (ops.size - 1) (before (ops.toList.map K.nz))) with
  | none => .fail 71
  | some n => match K.chainB .any ops.toList (stsOf ops.toList n) && ((stsOf ops.toList n).all (K.operB .any ops.toList) && (((stsOf ops.toList n).take 1).all (K.lateB .any ops.toList n) && ((ops.toList.map K.nz).take n).all fun o => (allocOf o).isNone)) with
    | false => .fail 72
    | true => (softList TB cf (ops.toList.map K.nz).toArray ((ops.toList.map K.nz).take n) ⟨st, []⟩).bind fun s =>
      match nodupB (s.log.map (·.1)) && (List.range n).all (fun j => waitsOn ops.toList (stsOf ops.toList n) j || lateAt TB s.st.ev st.heap (badOf s.st.ev ops.toList (stsOf ops.toList n)) ops.toList j) with
      | false => .fail 73
      | true => (storesS TB cf.ro ops.toList (stsOf ops.toList n) s.st).bind fun st' => opsDT TB cf ops (ops.toList.drop n) st'

noncomputable def softDF (TB : Tab) (cf : CF) : DF := fun ops st =>
  match lastN ops (min (ops.size - 1) (before ops.toList)) with
  | none => match storeAt 0 ops.toList with
    | none => .fail 31
    | some (i0, si, ty, d, y) => match ops.toList.filterMap allocOf with
      | [] => softMs TB cf ops st
      | _ => softSt TB cf ops i0 si ty d y st
  | some n => match (ops.toList.take n).filterMap allocOf with
    | [] => (softList TB cf ops (ops.toList.take n) ⟨st, []⟩).bind fun s =>
      if nodupB (s.log.map (·.1)) then opsDT TB cf ops (ops.toList.drop n) s.st else .fail 32
    | [(d, t)] => match TB t, st.tmps.get? d with
      | some ti, some v => match cellsS (svOf ti.zero) with
        | some l => if isPtr v || clashB d (ops.toList.take n) then .fail 33 else
          (softList TB cf ops (ops.toList.take n) ⟨st, []⟩).bind fun s =>
            match s.st.tmps.get? d with
            | some (.p (.one (.ptr b 0))) => if nodupB (s.log.map (·.1)) && Nat.beq b st.heap.length then opsDT TB cf ops (ops.toList.drop n) ⟨s.st.tmps, s.st.heap ++ [⟨l, t⟩], s.st.facts⟩ else .fail 34
            | _ => .fail 35
        | none => .fail 36
      | _, _ => .fail 37
    | _ => .fail 38

section
variable {Φ : Syms} {ρ : Nat → NV} {P : Program} {TB : Tab} {cf : CF} {W : World} {heap : List Blk}

theorem noPtrS_m {β : List Nat} {s : SS} {v : Value} (h : noPtrS s = true) (hm : SSm ρ β s v) (γ : List Nat) : SSm ρ γ s v := by
  cases s <;> first | exact hm | cases h
theorem noPtrL_m {β : List Nat} : ∀ {l : List SS} {m : List Value}, l.all noPtrS = true → all2 (SSm ρ β) l m → ∀ γ, all2 (SSm ρ γ) l m
  | [], [], _, _, _ => trivial
  | s :: l, v :: m, h, ⟨h1, h2⟩, γ => by
    simp only [List.all_cons, Bool.and_eq_true] at h
    exact ⟨noPtrS_m h.1 h1 γ, noPtrL_m h.2 h2 γ⟩
theorem noPtrP_m {β : List Nat} {s : SP} {v : Value} (h : noPtrP s = true) (hm : SPm ρ β s v) (γ : List Nat) : SPm ρ γ s v := by
  cases s with
  | one s => exact noPtrS_m h hm γ
  | agg l => obtain ⟨cs, hv, hl⟩ := hm; exact ⟨cs, hv, noPtrL_m h hl γ⟩
theorem noPtrPL_m {β : List Nat} : ∀ {l : List SP} {m : List Value}, l.all noPtrP = true → all2 (SPm ρ β) l m → ∀ γ, all2 (SPm ρ γ) l m
  | [], [], _, _, _ => trivial
  | s :: l, v :: m, h, ⟨h1, h2⟩, γ => by
    simp only [List.all_cons, Bool.and_eq_true] at h
    exact ⟨noPtrP_m h.1 h1 γ, noPtrPL_m h.2 h2 γ⟩
theorem noPtr_m {β : List Nat} {s : SV} {v : Value} (h : noPtr s = true) (hm : SVm ρ β s v) (γ : List Nat) : SVm ρ γ s v := by
  cases s with
  | p s => exact noPtrP_m h hm γ
  | tup l => obtain ⟨cs, hv, hl⟩ := hm; exact ⟨cs, hv, noPtrPL_m h hl γ⟩
  | clo g f c =>
    obtain ⟨fs, cs, hv, hf, hl⟩ := hm
    have h' : (f.all noPtrP && c.all noPtrP) = true := h
    simp only [Bool.and_eq_true] at h'
    exact ⟨fs, cs, hv, noPtrPL_m h'.1 hf γ, noPtrPL_m h'.2 hl γ⟩
theorem noPtrVL_m {β : List Nat} : ∀ {l : List SV} {m : List Value}, l.all noPtr = true → all2 (SVm ρ β) l m → ∀ γ, all2 (SVm ρ γ) l m
  | [], [], _, _, _ => trivial
  | s :: l, v :: m, h, ⟨h1, h2⟩, γ => by
    simp only [List.all_cons, Bool.and_eq_true] at h
    exact ⟨noPtr_m h.1 h1 γ, noPtrVL_m h.2 h2 γ⟩

/-- Where the first blocks lie. -/
structure At0 (ρ : Nat → NV) (W : World) (β0 : List Nat) (heap : List Blk) : Prop where
  len : β0.length = heap.length
  nodup : β0.Nodup
  at_ : HeapAt ρ β0 heap W

/-- Within the first operations: the world has all that W has; β may have one block more. -/
structure SoftM (ρ : Nat → NV) (W : World) (β : List Nat) (st : St) (a : Act) : Prop where
  tmps : TM ρ β st.tmps a.tmps
  heap : HeapAt ρ β st.heap W
  facts : ∀ c x, (c, x) ∈ st.facts → (ρ c).gb = x
  defers : a.defers = []

theorem SoftM.ev {β : List Nat} {st : St} {a : Act} (H : SoftM ρ W β st a) (x : Operand) : SVm ρ β (st.ev x) (a.eval x) := by
  cases x with
  | tmp t =>
    have := H.tmps.get t
    simpa [St.ev, Act.eval, Array.getD_eq_getD_getElem?] using this
  | const v => exact svOf_m ρ β v
  | global g => exact rfl
  | func f => exact rfl
theorem SoftM.evs {β : List Nat} {st : St} {a : Act} (H : SoftM ρ W β st a) : ∀ l : List Operand, all2 (SVm ρ β) (l.map st.ev) (l.map a.eval)
  | [] => trivial
  | x :: l => ⟨H.ev x, H.evs l⟩
theorem SoftM.put {β : List Nat} {st : St} {a : Act} (H : SoftM ρ W β st a) (d : Option Tmp) {s : SV} {v : Value} (h : SVm ρ β s v) : SoftM ρ W β (st.put d s) (a.put d v) := by
  cases d with
  | none => exact H
  | some d =>
    refine ⟨?_, H.heap, H.facts, H.defers⟩
    have := H.tmps.set d h
    simpa [St.put, Act.put] using this
theorem SoftM.ext {β : List Nat} {st : St} {a : Act} (H : SoftM ρ W β st a) (γ : List Nat) : SoftM ρ W (β ++ γ) st a :=
  ⟨H.tmps.ext γ, H.heap.ext γ, H.facts, H.defers⟩
theorem put_heap (st : St) (d : Option Tmp) (v : SV) : (st.put d v).heap = st.heap := by cases d <;> rfl

theorem splitSoft_ok {α : Type} {β : List Nat} {st : St} {a : Act} {n : Nat} {neg : Bool} {f : Bool → St → DT α} {Q : α → Prop} (H : SoftM ρ W β st a) (h : (splitOn st n neg f).holds Φ ρ Q) :
    ∃ st', st'.tmps = st.tmps ∧ st'.heap = st.heap ∧ SoftM ρ W β st' a ∧ (f ((ρ n).gb != neg) st').holds Φ ρ Q := by
  unfold splitOn at h
  cases hk : known n st.facts with
  | some x =>
    rw [hk] at h
    have := H.facts _ _ (known_ok hk)
    subst this
    exact ⟨st, rfl, rfl, H, h⟩
  | none =>
    rw [hk] at h
    simp only [DT.holds] at h
    split at h
    · rename_i hb
      refine ⟨⟨st.tmps, st.heap, (n, true) :: st.facts⟩, rfl, rfl, ⟨H.tmps, H.heap, ?_, H.defers⟩, by rw [hb]; exact h⟩
      intro c x hc
      rcases List.mem_cons.1 hc with he | hc
      · cases he; exact hb
      · exact H.facts _ _ hc
    · rename_i hb
      have hb' : (ρ n).gb = false := by simpa using hb
      refine ⟨⟨st.tmps, st.heap, (n, false) :: st.facts⟩, rfl, rfl, ⟨H.tmps, H.heap, ?_, H.defers⟩, by rw [hb']; exact h⟩
      intro c x hc
      rcases List.mem_cons.1 hc with he | hc
      · cases he; exact hb'
      · exact H.facts _ _ hc

theorem splitOn_leaf {α : Type} {st : St} {n : Nat} {neg : Bool} {f : Bool → St → DT α} {Q : α → Prop} (h : (splitOn st n neg f).holds Φ ρ Q) :
    ∃ b fs, (f b ⟨st.tmps, st.heap, fs⟩).holds Φ ρ Q := by
  unfold splitOn at h
  cases hk : known n st.facts with
  | some x => rw [hk] at h; exact ⟨_, st.facts, h⟩
  | none =>
    rw [hk] at h
    simp only [DT.holds] at h
    split at h
    · exact ⟨_, _, h⟩
    · exact ⟨_, _, h⟩

/-! ### The log only grows -/

theorem softDo_log {o : Oper} {s : Sft} {x : Sft} (h : (softDo TB cf o s).holds Φ ρ fun y => y = x) : ∀ e ∈ s.log, e ∈ x.log := by
  intro e he
  unfold softDo at h
  split at h
  · split at h
    · cases (h : _ = x); exact he
    · exact h.elim
  · exact h.elim
  · exact h.elim
  · exact h.elim
  · split at h
    · split at h
      · split at h
        · obtain ⟨r, hr, _⟩ := DT.holds_leaf _ (DT.holds_bind _ h)
          split at hr
          · cases (hr : _ = x); exact List.mem_cons_of_mem _ he
          · exact hr.elim
        · exact h.elim
      · split at h
        · obtain ⟨r, hr, _⟩ := DT.holds_leaf _ (DT.holds_bind _ h)
          split at hr
          · cases (hr : _ = x); exact List.mem_cons_of_mem _ he
          · exact hr.elim
        · exact h.elim
      · exact h.elim
    · split at h
      · cases (h : _ = x); exact he
      · exact h.elim
    · exact h.elim
  · split at h
    · obtain ⟨_, h⟩ := DT.holds_mks _ _ h
      obtain ⟨_, h⟩ := reqs_ok _ h
      cases (h : _ = x); exact he
    · exact h.elim

theorem softOp_log {ops : Array Oper} {o : Oper} {s : Sft} {x : Sft} (h : (softOp TB cf ops o s).holds Φ ρ fun y => y = x) : ∀ e ∈ s.log, e ∈ x.log := by
  intro e he
  unfold softOp at h
  split at h
  · exact softDo_log h e he
  · split at h
    · split at h
      · exact softDo_log h e he
      · cases (h : _ = x); exact he
    · cases (h : _ = x); exact he
    · obtain ⟨b, fs, h⟩ := splitOn_leaf h
      split at h
      · exact softDo_log h e he
      · cases (h : _ = x); exact he
    · exact h.elim

theorem softList_log {ops : Array Oper} {x : Sft} : ∀ (l : List Oper) (s : Sft), ((softList TB cf ops l s).holds Φ ρ fun y => y = x) → ∀ e ∈ s.log, e ∈ x.log
  | [], s, h, e, he => by cases (h : s = x); exact he
  | o :: l, s, h, e, he => by
    obtain ⟨y, hy, hy'⟩ := DT.holds_leaf _ (DT.holds_bind _ h)
    exact softList_log l y hy e (softOp_log hy' e he)

/-! ### One operation -/

abbrev SoftK (P : Program) (ops : Array Oper) (W : World) (S : Option Tmp → Value → Prop) (A : List (Tmp × Array Value × TypeId)) (o : Oper) (Kp : Act → Prop) (a : Act) : Prop := K.Soft P ops W S A o Kp a

variable {ops : Array Oper} {S : Option Tmp → Value → Prop} {A : List (Tmp × Array Value × TypeId)}

theorem soft_skip {o : Oper} {a : Act} {K : Act → Prop} (hw : Region.wanted o (yielded ops a.tmps) = false) (hA : ∀ e ∈ A, o.dst ≠ some e.1) (hK : K (a.put o.dst undef)) : SoftK P ops W S A o K a :=
  ⟨fun h => (by rw [hw] at h; cases h), fun e he hd => absurd hd (hA e he), ⟨undef, Or.inr ⟨hw, rfl⟩⟩, fun u hu => by
    rcases hu with ⟨h, _⟩ | ⟨_, rfl⟩
    · rw [hw] at h; cases h
    · exact hK⟩

theorem soft_value {o : Oper} {a : Act} {K : Act → Prop} (V : Value → Prop) (hwa : Region.wanted o (yielded ops a.tmps) = true) (hA : ∀ e ∈ A, o.dst ≠ some e.1)
    (h : ∀ w, Stays W w → ∃ v w', (execOp a.eval o).run P w = .ok (.value v) w' ∧ V v ∧ Stays w w') (hK : ∀ v, V v → K (a.put o.dst v)) : SoftK P ops W S A o K a := by
  refine ⟨fun _ w hw => ?_, fun e he hd => absurd hd (hA e he), ?_, fun u hu => ?_⟩
  · obtain ⟨v, w', e, _, hst⟩ := h w hw
    rw [e]; exact hst
  · obtain ⟨v, w', e, _, _⟩ := h W (Stays.refl W)
    exact ⟨v, Or.inl ⟨hwa, W, Stays.refl W, by rw [e]; rfl⟩⟩
  · rcases hu with ⟨_, w, hw, hu⟩ | ⟨hn, _⟩
    · obtain ⟨v, w', e, hv, _⟩ := h w hw
      rw [e] at hu
      cases hu
      exact hK _ hv
    · rw [hwa] at hn; cases hn

theorem soft_called {o : Oper} {a : Act} {K : Act → Prop} {f : FuncId} {args : Array Value} (hwa : Region.wanted o (yielded ops a.tmps) = true) (hA : ∀ e ∈ A, o.dst ≠ some e.1)
    (h : ∀ w, Stays W w → (execOp a.eval o).run P w = .ok (.enter f args) w)
    (hc : ∀ w, Stays W w → Calls P f args w (fun e w' => ∃ v, e = .returned v ∧ S o.dst v ∧ Stays w w'))
    (hK : ∀ v, S o.dst v → K (a.put o.dst v)) : SoftK P ops W S A o K a := by
  refine ⟨fun _ w hw => ?_, fun e he hd => absurd hd (hA e he), ?_, fun u hu => ?_⟩
  · rw [h w hw]
    exact ⟨rfl, hc w hw⟩
  · obtain ⟨_, _, _, ⟨v, _, hv, _⟩, _⟩ := hc W (Stays.refl W) []
    exact ⟨v, Or.inl ⟨hwa, W, Stays.refl W, by rw [h W (Stays.refl W)]; exact hv⟩⟩
  · rcases hu with ⟨_, w, hw, hu⟩ | ⟨hn, _⟩
    · rw [h w hw] at hu
      exact hK _ hu
    · rw [hwa] at hn; cases hn

theorem soft_made {o : Oper} {a : Act} {K : Act → Prop} {d : Tmp} {cs : Array Value} {t : TypeId} (hwa : Region.wanted o (yielded ops a.tmps) = true) (hd : o.dst = some d)
    (hA : ∀ e ∈ A, d = e.1 → e.2 = (cs, t))
    (h : ∀ w, Stays W w → (execOp a.eval o).run P w = .ok (.value (.pointer (some ⟨w.heap.size, 0, none⟩))) (w.alloc (.cells cs t)))
    (hK : ∀ p, W.heap.size ≤ p → K (a.put (some d) (.pointer (some ⟨p, 0, none⟩)))) : SoftK P ops W S A o K a := by
  refine ⟨fun _ w hw => ?_, fun e he hd' => ⟨hwa, fun w hw => ?_⟩, ?_, fun u hu => ?_⟩
  · rw [h w hw]; exact (Stays.refl w).alloc _
  · rw [h w hw]
    have : d = e.1 := by rw [hd] at hd'; exact Option.some.inj hd'
    rw [hA e he this]
  · exact ⟨_, Or.inl ⟨hwa, W, Stays.refl W, by rw [h W (Stays.refl W)]; rfl⟩⟩
  · rcases hu with ⟨_, w, hw, hu⟩ | ⟨hn, _⟩
    · rw [h w hw] at hu
      cases hu
      rw [hd]
      exact hK _ hw.size
    · rw [hwa] at hn; cases hn

/-- S says what the log says. -/
noncomputable def Fits (ρ : Nat → NV) (S : Option Tmp → Value → Prop) (L : List (Nat × SV)) : Prop := ∀ d r, (d, r) ∈ L → ∀ v, S (some d) v ↔ SVm ρ [] r v

/-- Where the block lies that the region makes (if it has been made, β is longer by one). -/
noncomputable def Longer (β0 : List Nat) (W : World) (β : List Nat) : Prop := β = β0 ∨ ∃ p, W.heap.size ≤ p ∧ β = β0 ++ [p]

/-- A call among the first operations. -/
theorem soft_call_ok (hcf : CFok P Φ ρ cf) {o : Oper} {a : Act} {st : St} {d : Tmp} {g : FuncId} {args : List SV} {vs : Array Value} {r : SV × St} {β : List Nat} {K : Act → Prop} (hwa : Region.wanted o (yielded ops a.tmps) = true)
    (hA2 : ∀ e ∈ A, o.dst ≠ some e.1) (hd : o.dst = some d) (hnp : args.all (belowV st.heap.length) = true) (hnr : noPtr r.1 = true) {β0 : List Nat} (h0 : At0 ρ W β0 st.heap) (hβ : β.take st.heap.length = β0)
    (H : SoftM ρ W β st a) (hargs0 : all2 (SVm ρ β) args vs.toList) (hr' : (cf.call st.heap.length g args ⟨.nil, st.heap, st.facts⟩).holds Φ ρ fun y => y = r)
    (hex : ∀ w, (execOp a.eval o).run P w = (callFunc g vs).run P w) (hfit : ∀ v, S (some d) v ↔ SVm ρ [] r.1 v)
    (hK : ∀ a', SoftM ρ W β (St.put ⟨st.tmps, st.heap, r.2.facts⟩ (some d) r.1) a' → K a') : SoftK P ops W S A o K a := by
  have hargs : all2 (SVm ρ β0) args vs.toList := by
    have := all2_if (fun _ _ => belowV_m (ρ := ρ) (β := β)) hnp hargs0
    rw [hβ] at this; exact this
  have hcall : ∀ w, Stays W w → _ := fun (w : World) (hw : Stays W w) => hcf g _ ⟨.nil, st.heap, st.facts⟩ ⟨w, st.heap.length⟩ β0 _ ⟨#[], []⟩ w _ ⟨TM.zero _ _, ⟨h0.len, h0.nodup, fun b p hb hp => by have := (List.getElem?_eq_some_iff.1 hp).1; have := h0.len; have hb' : st.heap.length ≤ b := hb; omega, h0.at_.on hw⟩, Stays.refl w, H.facts, rfl⟩ hargs hr'
  rcases hcall W (Stays.refl W) with ⟨hfn, hcW⟩ | ⟨v0, w0', hv0, hp0⟩
  · have hcall' : ∀ w, Stays W w → _ := fun (w : World) (hw : Stays W w) => (hcall w hw).resolve_right (fun ⟨v, _, hv, _⟩ => by
      have := enters (P := P) (vs := vs) (w := w) hfn
      rw [this] at hv; cases hv)
    have hrun : ∀ w, (execOp a.eval o).run P w = .ok (.enter g vs) w := fun w => by rw [hex]; exact enters hfn
    have hfacts : ∀ c x, (c, x) ∈ r.2.facts → (ρ c).gb = x := by
      obtain ⟨_, _, _, ⟨v, r', γ, _, rfl, _, _, _, hfa⟩, _⟩ := hcW []
      exact hfa
    refine soft_called hwa hA2 (fun w _ => hrun w) (fun w hw => (hcall' w hw).2.mono ?_) (fun v hv => ?_)
    · rintro e w' ⟨v, r', γ, rfl, rfl, hm, _, hst, _⟩
      exact ⟨v, rfl, by rw [hd]; exact (hfit v).2 (noPtr_m hnr hm []), hst⟩
    · rw [hd] at hv ⊢
      have hm := (hfit v).1 hv
      exact hK _ (SoftM.put (st := ⟨st.tmps, st.heap, r.2.facts⟩) ⟨H.tmps, H.heap, hfacts, H.defers⟩ (some d) (noPtr_m hnr hm β))
  · have hcall' : ∀ w, Stays W w → _ := fun (w : World) (hw : Stays W w) => (hcall w hw).resolve_left (fun ⟨hfn, _⟩ => by
      have := enters (P := P) (vs := vs) (w := W) hfn
      rw [this] at hv0; cases hv0)
    have hfacts : ∀ c x, (c, x) ∈ r.2.facts → (ρ c).gb = x := by
      obtain ⟨v, r', γ, _, rfl, _, _, _, hfa⟩ := hp0
      exact hfa
    refine soft_value (fun u => SVm ρ [] r.1 u) hwa hA2 (fun w hw => ?_) (fun u hu => ?_)
    · obtain ⟨v, w', hv', v', r', γ, e', rfl, hm, _, hst, _⟩ := hcall' w hw
      cases e'
      exact ⟨v, w', by rw [hex, hv'], noPtr_m hnr hm [], hst⟩
    · rw [hd]
      exact hK _ (SoftM.put (st := ⟨st.tmps, st.heap, r.2.facts⟩) ⟨H.tmps, H.heap, hfacts, H.defers⟩ (some d) (noPtr_m hnr hu β))

theorem softDo_ok (hT : TabOK P TB) (hcf : CFok P Φ ρ cf) {o : Oper} {a : Act} {s x : Sft} {β β0 : List Nat} {K : Act → Prop} (hwa : Region.wanted o (yielded ops a.tmps) = true)
    (hA1 : ∀ e ∈ A, ∀ d t, allocOf o = some (d, t) → ∃ ti, TB t = some ti ∧ e = (d, ti.zero.cells, t)) (hA2 : allocOf o = none → ∀ e ∈ A, o.dst ≠ some e.1)
    (hA3 : allocOf o ≠ none → A ≠ [])
    (hone : allocOf o ≠ none → β = β0) (hl0 : At0 ρ W β0 s.st.heap) (hβ : β.take s.st.heap.length = β0)
    (H : SoftM ρ W β s.st a) (h : (softDo TB cf o s).holds Φ ρ fun y => y = x) (hS : Fits ρ S x.log)
    (hK : ∀ a' β', (β' = β ∨ (allocOf o ≠ none ∧ ∃ p, W.heap.size ≤ p ∧ β' = β0 ++ [p])) → SoftM ρ W β' x.st a' → K a') : SoftK P ops W S A o K a := by
  unfold softDo at h
  split at h
  · rename_i t hop
    split at h
    · rename_i d t' hal
      cases (h : _ = x)
      have hal' : o.guard = none ∧ o.dst = some d ∧ t = t' := by
        unfold allocOf at hal
        split at hal
        · rename_i d' t'' h1 h2 h3
          cases hal
          rw [hop] at h3
          cases h3
          exact ⟨h1, h2, rfl⟩
        · cases hal
      obtain ⟨hg, hd, rfl⟩ := hal'
      have hb0 := hone (by rw [hal]; simp)
      subst hb0
      obtain ⟨e, he⟩ : ∃ e, e ∈ A := by
        cases A with
        | nil => exact absurd rfl (hA3 (by rw [hal]; simp))
        | cons e _ => exact ⟨e, List.mem_cons_self⟩
      obtain ⟨ti, hti, rfl⟩ := hA1 e he d t hal
      obtain ⟨_, hs, hz⟩ := hT _ _ hti
      refine soft_made hwa hd (cs := ti.zero.cells) (t := t) (fun e he hde => ?_) (fun w hw => ?_) (fun p hp => ?_)
      · obtain ⟨ti', hti', rfl⟩ := hA1 e he d t hal
        rw [hti] at hti'
        cases hti'
        rfl
      · cases hq : P.info? t with
        | none => simp [hq] at hs
        | some it =>
          have hz' : it.zero = some ti.zero := by simpa [hq] using hz
          simp [execOp, hop, Instr.alloc, zeroValue, typeInfo, hq, hz', newVar, newRow, Result.andThen]
      · refine hK _ (β ++ [p]) (Or.inr ⟨by rw [hal]; simp, p, hp, rfl⟩) ((H.ext [p]).put (some d) (s := .one (.ptr s.st.heap.length 0)) ?_)
        refine ⟨p, ?_, rfl⟩
        rw [← hl0.len]
        simp
    · exact h.elim
  · exact h.elim
  · exact h.elim
  · exact h.elim
  · rename_i c hop
    have hal : allocOf o = none := by
      unfold allocOf
      split
      · rename_i d' t'' h1 h2 h3; rw [hop] at h3; cases h3
      · rfl
    split at h
    · rename_i f d hf hd
      split at h
      · rename_i g fs cap hg
        split at h
        · rename_i hc
          simp only [Bool.and_eq_true, List.isEmpty_iff, Array.toList_eq_nil_iff] at hc
          obtain ⟨⟨rfl, rfl⟩, hnp⟩ := hc
          obtain ⟨r, hr, hr'⟩ := DT.holds_leaf _ (DT.holds_bind _ h)
          split at hr
          · rename_i hnr
            cases (hr : _ = x)
            have hv : a.eval f = .func (.func g) #[] #[] := by have := H.ev f; rw [hg] at this; exact this
            exact soft_call_ok (vs := c.args.map a.eval) hcf hwa (hA2 hal) hd hnp hnr hl0 hβ H (by simpa using H.evs c.args.toList) hr' (fun w => by simp [execOp, hop, resolve, hf, hv, Deferred.ofValue, invoke]) (hS d r.1 List.mem_cons_self) fun a' H' => hK a' β (Or.inl rfl) H'
          · exact hr.elim
        · exact h.elim
      · rename_i g fs cap hg
        split at h
        · rename_i hnp
          obtain ⟨r, hr, hr'⟩ := DT.holds_leaf _ (DT.holds_bind _ h)
          split at hr
          · rename_i hnr
            cases (hr : _ = x)
            obtain ⟨fv, cv, hv, hfv, hcv⟩ : ∃ fv cv, a.eval f = .func (.func g) fv cv ∧ all2 (SPm ρ β) fs fv.toList ∧ all2 (SPm ρ β) cap cv.toList := by have := H.ev f; rw [hg] at this; exact this
            have hargs : all2 (SVm ρ β) ((fs.map SV.p ++ c.args.toList.map s.st.ev) ++ cap.map SV.p) ((fv ++ c.args.map a.eval) ++ cv).toList := by
              simpa using ((all2_p hfv).append (H.evs c.args.toList)).append (all2_p hcv)
            exact soft_call_ok (vs := (fv ++ c.args.map a.eval) ++ cv) hcf hwa (hA2 hal) hd hnp hnr hl0 hβ H hargs hr' (fun w => by simp [execOp, hop, resolve, hf, hv, Deferred.ofValue, invoke]) (hS d r.1 List.mem_cons_self) fun a' H' => hK a' β (Or.inl rfl) H'
          · exact hr.elim
        · exact h.elim
      · exact h.elim
    · rename_i b hb
      split at h
      · rename_i r hr
        cases (h : _ = x)
        have hargs : all2 (SVm ρ β) (c.args.toList.map s.st.ev) (c.args.map a.eval).toList := by simpa using H.evs c.args.toList
        refine soft_value (fun u => SVm ρ β r u) hwa (hA2 hal) (fun w hw => ?_) (fun u hu => hK _ β (Or.inl rfl) (H.put o.dst hu))
        obtain ⟨v, hv, hm⟩ := builtS_ok (w := w) (t := o.type) (cs := c.args.map fun | .const _ => true | _ => false) hT hr hargs
        refine ⟨v, w, ?_, hm, Stays.refl w⟩
        simp only [execOp, hop, resolve, hb]
        simp only [Sem.run_bind, Sem.run_pure, Result.andThen_ok, invoke]
        exact hv
      · exact h.elim
    · exact h.elim
  · rename_i op h1 h2 h3 h4 h5
    split at h
    · rename_i ds rq v hp
      obtain ⟨hd, h⟩ := DT.holds_mks _ _ h
      obtain ⟨hq, h⟩ := reqs_ok _ h
      cases (h : _ = x)
      have hal : allocOf o = none := by
        unfold allocOf
        split
        · rename_i d' t'' g1 g2 g3; exact absurd g3 (h1 t'')
        · rfl
      refine soft_value (fun u => SVm ρ β v u) hwa (hA2 hal) (fun w hw => ?_) (fun u hu => hK _ β (Or.inl rfl) (H.put o.dst hu))
      obtain ⟨u, n, hrun, hm⟩ := pureOp_ok (w := w) hT (H.heap.on hw) hp hd hq H.ev
      exact ⟨u, _, hrun, hm, (Stays.refl w).drewN n⟩
    · exact h.elim

end
end Go.Proofs.Ytcopccniijkceaa
