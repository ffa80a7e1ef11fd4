/- A symbolic walk: calls, whole functions, and what is checked of them. No condition. -/
import Derived.Test.YtcopccniijkceaaY6
namespace Go.Proofs.Ytcopccniijkceaa
open Go Go.RowKit
set_option linter.unusedVariables false
set_option linter.unusedSimpArgs false

inductive Kd where
  | f (k : FloatKind)
  | i (k : IntKind)
  | b

inductive Sh where
  | one (k : Kd)
  | agg (l : List Kd)

inductive RSh where
  | p (s : Sh)
  | tup (l : List Sh)

/-- A function by its meaning: a symbol, or (same) one that says whether two values are the same and is met with one value twice. -/
structure Opq where
  f : FuncId
  sym : Nat
  args : List Sh
  res : RSh
  same : Bool := false
  ext : Nat := 0

noncomputable def KM : Kd → Value → NV → Prop
  | .f k, v, n => ∃ r, v = .float k r ∧ FIs k r n.gf
  | .i k, v, n => v = .int k n.gi
  | .b, v, n => v = .bool n.gb

noncomputable def KMs : List Kd → List Value → List NV → Prop
  | [], [], [] => True
  | k :: ks, v :: vs, n :: ns => KM k v n ∧ KMs ks vs ns
  | _, _, _ => False

noncomputable def ShM : Sh → Value → List NV → Prop
  | .one k, v, ns => ∃ n, ns = [n] ∧ KM k v n
  | .agg ks, v, ns => ∃ cs, v = .agg cs ∧ KMs ks cs.toList ns

noncomputable def ShMs : List Sh → List Value → List NV → Prop
  | [], [], ns => ns = []
  | s :: r, v :: vs, ns => ∃ n1 n2, ns = n1 ++ n2 ∧ ShM s v n1 ∧ ShMs r vs n2
  | _, _, _ => False

noncomputable def RM : RSh → Value → List NV → Prop
  | .p s, v, ns => ShM s v ns
  | .tup l, v, ns => ∃ cs, v = .tuple cs ∧ ShMs l cs.toList ns

noncomputable def Sh.cnt : Sh → Nat
  | .one _ => 1
  | .agg l => l.length
noncomputable def cnts : List Sh → Nat
  | [] => 0
  | s :: r => s.cnt + cnts r
noncomputable def RSh.cnt : RSh → Nat
  | .p s => s.cnt
  | .tup l => cnts l

noncomputable def outsOf (Φ : Syms) (sym : Nat) (ins : List NV) : Nat → Nat → List NV
  | _, 0 => []
  | j, n + 1 => Φ (sym * 64 + j) ins :: outsOf Φ sym ins (j + 1) n

noncomputable def SameOK (P : Program) (e : Opq) : Prop :=
  ∀ (s : Sh) (v1 v2 : Value) (ins : List NV) (w : World), e.args = [s] → ShM s v1 ins → ShM s v2 ins → Calls P e.f #[v1, v2] w fun en w' => en = .returned (.bool true) ∧ Stays w w'

noncomputable def SymOK (P : Program) (Φ : Syms) (e : Opq) : Prop :=
  ∀ (vs : Array Value) (ins : List NV) (w : World), ShMs e.args vs.toList ins → Calls P e.f vs w fun en w' => ∃ v, en = .returned v ∧ RM e.res v (outsOf Φ e.sym ins 0 e.res.cnt) ∧ Stays w w'

/-- A function that the model gives: 1: a narrow number by its bits; 2: a wide one. -/
noncomputable def extK : Nat → FloatKind
  | 1 => .f32
  | _ => .f64
noncomputable def extI : Nat → IntKind
  | 1 => .u32
  | _ => .u64
noncomputable def ExtOK (P : Program) (e : Opq) : Prop := ∀ (n : Nat) (w : World), below (extK e.ext) n = true → (callFunc e.f #[.int (extI e.ext) n]).run P w = .ok (.value (.float (extK e.ext) n)) w

/-- 3 and more: a symbol. -/
noncomputable def ExtSym (P : Program) (Φ : Syms) (e : Opq) : Prop := ∀ (vs : Array Value) (ins : List NV) (w : World), ShMs e.args vs.toList ins → ∃ v w', (callFunc e.f vs).run P w = .ok (.value v) w' ∧ RM e.res v (outsOf Φ e.sym ins 0 e.res.cnt) ∧ Stays w w'

noncomputable def OpqOK (P : Program) (Φ : Syms) (e : Opq) : Prop := if e.ext = 0 then (if e.same then SameOK P e else SymOK P Φ e) else if e.ext < 3 then ExtOK P e else ExtSym P Φ e

/-! ### Arguments to nodes, nodes to results -/

noncomputable def asK : Kd → SS → Option (List Df × Nat)
  | .f k, s => asF k s
  | .i k, .int k' n => if sameKind k k' then some ([], n) else none
  | .i k, .lit (.int k' (.ofNat c)) => if sameKind k k' then some ([⟨16, c, []⟩], Df.id ⟨16, c, []⟩) else none
  | .i k, .lit (.int k' (.negSucc c)) => if sameKind k k' then some ([⟨17, c + 1, []⟩], Df.id ⟨17, c + 1, []⟩) else none
  | .b, .bool n false => some ([], n)
  | .b, .bool n true => some ([⟨19, 0, [n]⟩], Df.id ⟨19, 0, [n]⟩)
  | .b, .lit (.bool true) => some ([⟨18, 1, []⟩], Df.id ⟨18, 1, []⟩)
  | .b, .lit (.bool false) => some ([⟨18, 0, []⟩], Df.id ⟨18, 0, []⟩)
  | _, _ => none

noncomputable def asKs : List Kd → List SS → Option (List Df × List Nat)
  | [], [] => some ([], [])
  | k :: ks, s :: ss => match asK k s, asKs ks ss with
    | some (d, n), some (ds, ns) => some (d ++ ds, n :: ns)
    | _, _ => none
  | _, _ => none

noncomputable def asSh : Sh → SV → Option (List Df × List Nat)
  | .one k, .p (.one s) => match asK k s with
    | some (d, n) => some (d, [n])
    | none => none
  | .agg ks, .p (.agg l) => asKs ks l
  | _, _ => none

noncomputable def asShs : List Sh → List SV → Option (List Df × List Nat)
  | [], [] => some ([], [])
  | s :: r, v :: vs => match asSh s v, asShs r vs with
    | some (d, n), some (ds, ns) => some (d ++ ds, n ++ ns)
    | _, _ => none
  | _, _ => none

noncomputable def resK (sym : Nat) (ids : List Nat) (j : Nat) : Kd → SS
  | .f k => .flt k (Df.id ⟨20, sym * 64 + j, ids⟩)
  | .i k => .int k (Df.id ⟨20, sym * 64 + j, ids⟩)
  | .b => .bool (Df.id ⟨20, sym * 64 + j, ids⟩) false

noncomputable def resKs (sym : Nat) (ids : List Nat) : Nat → List Kd → List SS
  | _, [] => []
  | j, k :: ks => resK sym ids j k :: resKs sym ids (j + 1) ks

noncomputable def resSh (sym : Nat) (ids : List Nat) (j : Nat) : Sh → SP
  | .one k => .one (resK sym ids j k)
  | .agg ks => .agg (resKs sym ids j ks)

noncomputable def resShs (sym : Nat) (ids : List Nat) : Nat → List Sh → List SP
  | _, [] => []
  | j, s :: r => resSh sym ids j s :: resShs sym ids (j + s.cnt) r

noncomputable def resR (sym : Nat) (ids : List Nat) : RSh → SV
  | .p s => .p (resSh sym ids 0 s)
  | .tup l => .tup (resShs sym ids 0 l)

noncomputable def resDefs (sym : Nat) (ids : List Nat) : Nat → Nat → List Df
  | _, 0 => []
  | j, n + 1 => ⟨20, sym * 64 + j, ids⟩ :: resDefs sym ids (j + 1) n

noncomputable def beqL : List Nat → List Nat → Bool
  | [], [] => true
  | a :: l, b :: m => Nat.beq a b && beqL l m
  | _, _ => false
theorem beqL_eq : ∀ {l m : List Nat}, beqL l m = true → l = m
  | [], [], _ => rfl
  | a :: l, b :: m, h => by
    simp only [beqL, Bool.and_eq_true] at h
    rw [Nat.eq_of_beq_eq_true h.1, beqL_eq h.2]

noncomputable def sameDT (e : Opq) (args : List SV) (st : St) : DT (SV × St) :=
  match e.args, args with
  | [s], [x, y] => match asSh s x, asSh s y with
    | some (d1, n1), some (d2, n2) => if beqL n1 n2 then DT.mks d1 (DT.mks d2 (.ret (.one (.lit (.bool true)), st))) else .fail 42
    | _, _ => .fail 43
  | _, _ => .fail 44

noncomputable def opqDT (e : Opq) (args : List SV) (st : St) : DT (SV × St) :=
  match e.same with
  | true => sameDT e args st
  | false => match asShs e.args args with
  | some (ds, ids) => DT.mks ds (DT.mks (resDefs e.sym ids 0 e.res.cnt) (.ret (resR e.sym ids e.res, st)))
  | none => .fail 41

/-! ### Functions -/

abbrev FTab := List (FuncId × Func)
abbrev OTab := List Opq

noncomputable def findF (g : FuncId) (l : FTab) : Option Func := List.rec (motive := fun _ => Option Func) none (fun e _ ih => Bool.rec (motive := fun _ => Option Func) ih (some e.2) (Nat.beq e.1 g)) l
noncomputable def findO (g : FuncId) (l : OTab) : Option Opq := List.rec (motive := fun _ => Option Opq) none (fun e _ ih => Bool.rec (motive := fun _ => Option Opq) ih (Bool.rec (motive := fun _ => Option Opq) ih (some e) (Nat.beq e.ext 0)) (Nat.beq e.f g)) l
noncomputable def findE (g : FuncId) (l : OTab) : Option Opq := List.rec (motive := fun _ => Option Opq) none (fun e _ ih => Bool.rec (motive := fun _ => Option Opq) ih (Bool.rec (motive := fun _ => Option Opq) (some e) ih (Nat.beq e.ext 0)) (Nat.beq e.f g)) l

noncomputable def extDT (e : Opq) (args : List SV) (st : St) : DT (SV × St) :=
  if Nat.blt e.ext 3 then
    match args with
    | [.p (.one (.lit (.int k (.ofNat n))))] => if sameKind k (extI e.ext) && below (extK e.ext) n then .ret (.one (.lit (.float (extK e.ext) n)), st) else .fail 55
    | _ => .fail 56
  else match asShs e.args args with
  | some (ds, ids) => DT.mks ds (DT.mks (resDefs e.sym ids 0 e.res.cnt) (.ret (resR e.sym ids e.res, st)))
  | none => .fail 57

noncomputable def resultS (TB : Tab) (st : St) : ResultVar → Option SP
  | .tmp t => match st.tmps.get t with
    | .p x => some x
    | .tup _ => none
    | .clo .. => none
  | .cell a t => match loadS TB t (st.tmps.get a) st.heap with
    | some (.p x) => some x
    | _ => none

noncomputable def resultsS (TB : Tab) (st : St) : List ResultVar → Option SV
  | [] => some (.one (.lit (.tuple #[])))
  | [x] => (resultS TB st x).map .p
  | [x, y] => match resultS TB st x, resultS TB st y with
    | some a, some b => some (.tup [a, b])
    | _, _ => none
  | [x, y, z] => match resultS TB st x, resultS TB st y, resultS TB st z with
    | some a, some b, some c => some (.tup [a, b, c])
    | _, _, _ => none
  | _ => none

noncomputable def callDT (TB : Tab) (FT : FTab) (OT : OTab) (rounds : Nat) : Nat → Nat → FuncId → List SV → St → DT (SV × St)
  | 0 => fun _ _ _ _ => .fail 50
  | n + 1 => fun ro g args st => match findE g OT with
    | some e => extDT e args st
    | none => match findF g FT with
    | none => .fail 51
    | some fn => match findO g OT with
      | some e => opqDT e args st
      | none => match fn.body with
        | none => .fail 52
        | some c => match Nat.ble (args.length + (fn.ntmps - args.length)) 8000 with
          | false => .fail 58
          | true => (codeDT TB ⟨ro, callDT TB FT OT rounds n⟩ (softDF TB ⟨ro, callDT TB FT OT rounds n⟩) rounds c ⟨Tr.start (args.length + (fn.ntmps - args.length)) args, st.heap, st.facts⟩).bind fun r =>
            match r.1 with
            | .exit _ => .fail 53
            | _ => match resultsS TB r.2 fn.results.toList with
              | some v => .ret (v, ⟨.nil, r.2.heap, r.2.facts⟩)
              | none => .fail 54

noncomputable def FTok (P : Program) (FT : FTab) : Prop := ∀ g fn, (g, fn) ∈ FT → P.funcs[g]? = some fn ∧ (fn.name == "runtime.NumGoroutine") = false ∧ fn.body.isNone = false

section
variable {Φ : Syms} {ρ : Nat → NV} {P : Program} {TB : Tab} {FT : FTab} {OT : OTab}

theorem asK_ok {β : List Nat} {k : Kd} {s : SS} {ds : List Df} {n : Nat} {v : Value} (h : asK k s = some (ds, n)) (hd : ∀ d ∈ ds, ρ d.id = d.sem Φ ρ) (hv : SSm ρ β s v) : KM k v (ρ n) := by
  unfold asK at h
  split at h
  · exact asF_ok h hd hv
  · split at h
    · rename_i hk; obtain rfl := sameKind_eq hk; cases h; exact hv
    · cases h
  · split at h
    · rename_i hk
      obtain rfl := sameKind_eq hk
      cases h
      unfold KM
      rw [hd _ (List.mem_singleton.2 rfl)]
      exact hv
    · cases h
  · split at h
    · rename_i hk
      obtain rfl := sameKind_eq hk
      cases h
      unfold KM
      rw [hd _ (List.mem_singleton.2 rfl)]
      exact hv
    · cases h
  · cases h
    have hv' : v = .bool ((ρ n).gb != false) := hv
    unfold KM
    rw [hv']; simp
  · rename_i m
    cases h
    have hv' : v = .bool ((ρ m).gb != true) := hv
    unfold KM
    rw [hd _ (List.mem_singleton.2 rfl), hv']
    simp [Df.sem, NV.gb]
  · cases h
    unfold KM
    rw [hd _ (List.mem_singleton.2 rfl)]
    exact hv
  · cases h
    unfold KM
    rw [hd _ (List.mem_singleton.2 rfl)]
    exact hv
  · cases h

theorem asKs_ok {β : List Nat} : ∀ {ks : List Kd} {ss : List SS} {ds : List Df} {ns : List Nat} {vs : List Value}, asKs ks ss = some (ds, ns) → (∀ d ∈ ds, ρ d.id = d.sem Φ ρ) → all2 (SSm ρ β) ss vs → KMs ks vs (ns.map ρ)
  | [], [], ds, ns, [], h, _, _ => by cases h; trivial
  | k :: ks, s :: ss, ds, ns, v :: vs, h, hd, ⟨h1, h2⟩ => by
    unfold asKs at h
    split at h
    · rename_i d n ds' ns' e1 e2
      cases h
      exact ⟨asK_ok e1 (fun d hd' => hd d (by simp [hd'])) h1, asKs_ok e2 (fun d hd' => hd d (by simp [hd'])) h2⟩
    · cases h
  | [], _ :: _, _, _, _, h, _, _ => by cases h
  | _ :: _, [], _, _, _, h, _, _ => by cases h

theorem asSh_ok {β : List Nat} {s : Sh} {x : SV} {ds : List Df} {ns : List Nat} {v : Value} (h : asSh s x = some (ds, ns)) (hd : ∀ d ∈ ds, ρ d.id = d.sem Φ ρ) (hv : SVm ρ β x v) : ShM s v (ns.map ρ) := by
  unfold asSh at h
  split at h
  · split at h
    · rename_i d n e1
      cases h
      exact ⟨_, rfl, asK_ok e1 hd hv⟩
    · cases h
  · obtain ⟨cs, rfl, hl⟩ := hv
    exact ⟨cs, rfl, asKs_ok h hd hl⟩
  · cases h

theorem asShs_ok {β : List Nat} : ∀ {ss : List Sh} {xs : List SV} {ds : List Df} {ns : List Nat} {vs : List Value}, asShs ss xs = some (ds, ns) → (∀ d ∈ ds, ρ d.id = d.sem Φ ρ) → all2 (SVm ρ β) xs vs → ShMs ss vs (ns.map ρ)
  | [], [], ds, ns, [], h, _, _ => by cases h; rfl
  | s :: ss, x :: xs, ds, ns, v :: vs, h, hd, ⟨h1, h2⟩ => by
    unfold asShs at h
    split at h
    · rename_i d n ds' ns' e1 e2
      cases h
      exact ⟨n.map ρ, ns'.map ρ, by simp, asSh_ok e1 (fun d hd' => hd d (by simp [hd'])) h1, asShs_ok e2 (fun d hd' => hd d (by simp [hd'])) h2⟩
    · cases h
  | [], _ :: _, _, _, _, h, _, _ => by cases h
  | _ :: _, [], _, _, _, h, _, _ => by cases h

theorem resK_ok {β : List Nat} {sym : Nat} {ids : List Nat} {j : Nat} {k : Kd} {v : Value} (hd : ρ (Df.id ⟨20, sym * 64 + j, ids⟩) = Φ (sym * 64 + j) (ids.map ρ)) (h : KM k v (Φ (sym * 64 + j) (ids.map ρ))) : SSm ρ β (resK sym ids j k) v := by
  cases k with
  | f k => obtain ⟨r, rfl, hr⟩ := h; exact ⟨r, rfl, by rw [hd]; exact hr⟩
  | i k => show v = .int k _; rw [hd]; exact h
  | b => show v = .bool (_ != false); rw [hd]; have h' : v = .bool (Φ (sym * 64 + j) (ids.map ρ)).gb := h; simpa using h'

theorem resDefs_mem {sym : Nat} {ids : List Nat} : ∀ {n j i : Nat}, j ≤ i → i < j + n → (⟨20, sym * 64 + i, ids⟩ : Df) ∈ resDefs sym ids j n
  | 0, j, i, h1, h2 => by omega
  | n + 1, j, i, h1, h2 => by
    by_cases h : i = j
    · subst h; exact List.mem_cons_self
    · exact List.mem_cons_of_mem _ (resDefs_mem (by omega) (by omega))

theorem outsOf_append (sym : Nat) (ins : List NV) : ∀ (j a b : Nat), outsOf Φ sym ins j (a + b) = outsOf Φ sym ins j a ++ outsOf Φ sym ins (j + a) b
  | j, 0, b => by simp [outsOf]
  | j, a + 1, b => by
    rw [show a + 1 + b = (a + b) + 1 by omega]
    simp only [outsOf, List.cons_append]
    rw [outsOf_append sym ins (j + 1) a b, show j + 1 + a = j + (a + 1) by omega]

theorem outsOf_length (sym : Nat) (ins : List NV) : ∀ (j n : Nat), (outsOf Φ sym ins j n).length = n
  | j, 0 => rfl
  | j, n + 1 => by simp [outsOf, outsOf_length sym ins (j + 1) n]

theorem KMs_length : ∀ {ks : List Kd} {vs : List Value} {ns : List NV}, KMs ks vs ns → ns.length = ks.length
  | [], [], [], _ => rfl
  | _ :: _, _ :: _, _ :: _, ⟨_, h⟩ => by simp [KMs_length h]
theorem ShM_length {s : Sh} {v : Value} {ns : List NV} (h : ShM s v ns) : ns.length = s.cnt := by
  cases s with
  | one k => obtain ⟨n, rfl, _⟩ := h; rfl
  | agg ks => obtain ⟨cs, _, h⟩ := h; exact KMs_length h

theorem resKs_ok {β : List Nat} {sym : Nat} {ids : List Nat} {N : Nat} (hd : ∀ j, j < N → ρ (Df.id ⟨20, sym * 64 + j, ids⟩) = Φ (sym * 64 + j) (ids.map ρ)) :
    ∀ (ks : List Kd) (vs : List Value) (j : Nat), j + ks.length ≤ N → KMs ks vs (outsOf Φ sym (ids.map ρ) j ks.length) → all2 (SSm ρ β) (resKs sym ids j ks) vs
  | [], [], j, _, _ => trivial
  | k :: ks, v :: vs, j, hj, ⟨h1, h2⟩ => ⟨resK_ok (hd j (by simp at hj; omega)) h1, resKs_ok hd ks vs (j + 1) (by simp at hj ⊢; omega) h2⟩
  | k :: ks, [], j, hj, h => by simp [outsOf, KMs] at h
  | [], v :: vs, j, hj, h => by simp [outsOf, KMs] at h

theorem resSh_ok {β : List Nat} {sym : Nat} {ids : List Nat} {N j : Nat} {s : Sh} {v : Value} (hd : ∀ j, j < N → ρ (Df.id ⟨20, sym * 64 + j, ids⟩) = Φ (sym * 64 + j) (ids.map ρ)) (hj : j + s.cnt ≤ N)
    (h : ShM s v (outsOf Φ sym (ids.map ρ) j s.cnt)) : SPm ρ β (resSh sym ids j s) v := by
  cases s with
  | one k =>
    obtain ⟨n, hn, h⟩ := h
    simp [outsOf, Sh.cnt] at hn
    subst hn
    exact resK_ok (hd j (by simp [Sh.cnt] at hj; omega)) h
  | agg ks =>
    obtain ⟨cs, rfl, h⟩ := h
    exact ⟨cs, rfl, resKs_ok hd ks _ j hj h⟩

theorem resShs_ok {β : List Nat} {sym : Nat} {ids : List Nat} {N : Nat} (hd : ∀ j, j < N → ρ (Df.id ⟨20, sym * 64 + j, ids⟩) = Φ (sym * 64 + j) (ids.map ρ)) :
    ∀ (ss : List Sh) (vs : List Value) (j : Nat), j + cnts ss ≤ N → ShMs ss vs (outsOf Φ sym (ids.map ρ) j (cnts ss)) → all2 (SPm ρ β) (resShs sym ids j ss) vs
  | [], [], j, _, _ => trivial
  | s :: ss, v :: vs, j, hj, h => by
    obtain ⟨n1, n2, hn, h1, h2⟩ := h
    simp only [cnts] at hn hj
    rw [outsOf_append] at hn
    have hl := ShM_length h1
    obtain ⟨rfl, rfl⟩ := List.append_inj hn.symm (by rw [hl, outsOf_length])
    exact ⟨resSh_ok hd (by omega) h1, resShs_ok hd ss vs (j + s.cnt) (by omega) h2⟩
  | s :: ss, [], j, hj, h => h.elim
  | [], v :: vs, j, hj, h => h.elim

theorem resR_ok {β : List Nat} {sym : Nat} {ids : List Nat} {r : RSh} {v : Value} (hd : ∀ d ∈ resDefs sym ids 0 r.cnt, ρ d.id = d.sem Φ ρ) (h : RM r v (outsOf Φ sym (ids.map ρ) 0 r.cnt)) : SVm ρ β (resR sym ids r) v := by
  have hd' : ∀ j, j < r.cnt → ρ (Df.id ⟨20, sym * 64 + j, ids⟩) = Φ (sym * 64 + j) (ids.map ρ) := fun j hj => hd ⟨20, sym * 64 + j, ids⟩ (resDefs_mem (Nat.zero_le _) (by omega))
  cases r with
  | p s => exact resSh_ok hd' (by simp [RSh.cnt]) h
  | tup l => obtain ⟨cs, rfl, h⟩ := h; exact ⟨cs, rfl, resShs_ok hd' l _ 0 (by simp [RSh.cnt]) h⟩

theorem findF_mem {g : FuncId} {fn : Func} : ∀ {l : FTab}, findF g l = some fn → (g, fn) ∈ l
  | [], h => by cases h
  | (x, y) :: r, h => by
    have h' : Bool.rec (motive := fun _ => Option Func) (findF g r) (some y) (Nat.beq x g) = some fn := h
    cases hx : Nat.beq x g with
    | true => rw [hx] at h'; cases h'; rw [Nat.eq_of_beq_eq_true hx]; exact List.mem_cons_self
    | false => rw [hx] at h'; exact List.mem_cons_of_mem _ (findF_mem h')
theorem findO_mem {g : FuncId} {e : Opq} : ∀ {l : OTab}, findO g l = some e → e ∈ l ∧ e.f = g ∧ e.ext = 0
  | [], h => by cases h
  | x :: r, h => by
    have h' : Bool.rec (motive := fun _ => Option Opq) (findO g r) (Bool.rec (motive := fun _ => Option Opq) (findO g r) (some x) (Nat.beq x.ext 0)) (Nat.beq x.f g) = some e := h
    have old : findO g r = some e → e ∈ x :: r ∧ e.f = g ∧ e.ext = 0 := fun h => ⟨List.mem_cons_of_mem _ (findO_mem h).1, (findO_mem h).2⟩
    cases hx : Nat.beq x.f g with
    | true =>
      rw [hx] at h'
      cases hy : Nat.beq x.ext 0 with
      | true => rw [hy] at h'; cases h'; exact ⟨List.mem_cons_self, Nat.eq_of_beq_eq_true hx, Nat.eq_of_beq_eq_true hy⟩
      | false => rw [hy] at h'; exact old h'
    | false => rw [hx] at h'; exact old h'
theorem findE_mem {g : FuncId} {e : Opq} : ∀ {l : OTab}, findE g l = some e → e ∈ l ∧ e.f = g ∧ e.ext ≠ 0
  | [], h => by cases h
  | x :: r, h => by
    have h' : Bool.rec (motive := fun _ => Option Opq) (findE g r) (Bool.rec (motive := fun _ => Option Opq) (some x) (findE g r) (Nat.beq x.ext 0)) (Nat.beq x.f g) = some e := h
    have old : findE g r = some e → e ∈ x :: r ∧ e.f = g ∧ e.ext ≠ 0 := fun h => ⟨List.mem_cons_of_mem _ (findE_mem h).1, (findE_mem h).2⟩
    cases hx : Nat.beq x.f g with
    | true =>
      rw [hx] at h'
      cases hy : Nat.beq x.ext 0 with
      | true => rw [hy] at h'; exact old h'
      | false =>
        rw [hy] at h'
        cases h'
        exact ⟨List.mem_cons_self, Nat.eq_of_beq_eq_true hx, fun e0 => by rw [e0] at hy; exact Bool.noConfusion hy⟩
    | false => rw [hx] at h'; exact old h'

theorem opqDT_ok {e : Opq} (he : OpqOK P Φ e) (h0 : e.ext = 0) {args : List SV} {st : St} {w0 : W0} {β : List Nat} {vs : Array Value} {a : Act} {w : World} {Q : SV × St → Prop} (H : StM ρ w0 β st a w) (ha : all2 (SVm ρ β) args vs.toList)
    (h : (opqDT e args st).holds Φ ρ Q) :
    Calls P e.f vs w fun en w' => ∃ v r γ, en = .returned v ∧ Q r ∧ SVm ρ (β ++ γ) r.1 v ∧ HeapM ρ w0 (β ++ γ) r.2.heap w' ∧ Stays w0.w w' ∧ (∀ c x, (c, x) ∈ r.2.facts → (ρ c).gb = x) := by
  unfold opqDT at h
  unfold OpqOK at he
  rw [if_pos h0] at he
  cases hsame : e.same with
  | true =>
    rw [hsame] at h he
    simp only [if_true] at he
    simp only at h
    unfold sameDT at h
    split at h
    case h_2 => exact h.elim
    rename_i s x y hea
    split at h
    case h_2 => exact h.elim
    rename_i d1 n1 d2 n2 e1 e2
    split at h
    case isFalse => exact h.elim
    rename_i hb
    obtain rfl := beqL_eq hb
    obtain ⟨hd, h⟩ := DT.holds_mks _ _ h
    obtain ⟨hd2, h⟩ := DT.holds_mks _ _ h
    obtain ⟨l⟩ := vs
    match l, ha with
    | [v1, v2], ⟨h1, h2, _⟩ =>
      refine (he s v1 v2 (n1.map ρ) w hea (asSh_ok e1 hd h1) (asSh_ok e2 hd2 h2)).mono ?_
      rintro en w' ⟨rfl, hst⟩
      exact ⟨_, _, [], rfl, h, rfl, by simpa using H.heap.on hst, H.stays.trans hst, H.facts⟩
  | false =>
  rw [hsame] at h he
  simp only [Bool.false_eq_true, if_false] at he
  simp only at h
  split at h
  · rename_i ds ids hs
    obtain ⟨hd, h⟩ := DT.holds_mks _ _ h
    obtain ⟨hd2, h⟩ := DT.holds_mks _ _ h
    refine (he vs (ids.map ρ) w (asShs_ok hs hd ha)).mono ?_
    rintro en w' ⟨v, rfl, hr, hst⟩
    exact ⟨v, _, [], rfl, h, resR_ok hd2 hr, by simpa using H.heap.on hst, H.stays.trans hst, H.facts⟩
  · exact h.elim

noncomputable def ResV (P : Program) (a : Act) (w : World) : ResultVar → Value → Prop
  | .tmp t, v => v = a.tmps[t]?.getD undef
  | .cell p t, v => ∃ q, a.tmps[p]?.getD undef = .pointer (some q) ∧ (loadVar t q).run P w = .ok v w

theorem resultS_ok (hT : TabOK P TB) {w0 : W0} {w : World} {β : List Nat} {st : St} {a : Act} (H : StM ρ w0 β st a w) {r : ResultVar} {x : SP} (h : resultS TB st r = some x) :
    ∃ v, SPm ρ β x v ∧ ResV P a w r v := by
  cases r with
  | tmp t =>
    have hv := H.ev (.tmp t)
    unfold resultS at h
    simp only at h
    have e : st.ev (.tmp t) = st.tmps.get t := rfl
    rw [e] at hv
    split at h
    · rename_i y hy
      cases h
      rw [hy] at hv
      exact ⟨_, hv, by simp [ResV, Act.eval, Array.getD_eq_getD_getElem?]⟩
    · cases h
    · cases h
  | cell p t =>
    have hv := H.ev (.tmp p)
    unfold resultS at h
    simp only at h
    have e : st.ev (.tmp p) = st.tmps.get p := rfl
    rw [e] at hv
    split at h
    · rename_i y hy
      cases h
      obtain ⟨v, hrun, hm⟩ := loadS_ok (w := w) hT H.heap.at_ hy hv
      have hp : ∃ q, a.eval (.tmp p) = .pointer (some q) := by
        unfold loadS at hy
        split at hy
        · rename_i b off ti heq hti
          rw [heq] at hv
          obtain ⟨q, _, hq⟩ := hv
          exact ⟨_, hq⟩
        · cases hy
      obtain ⟨q, hq⟩ := hp
      rw [hq] at hrun
      refine ⟨v, hm, q, ?_, ?_⟩
      · rw [← hq]; simp [Act.eval, Array.getD_eq_getD_getElem?]
      · simpa [Instr.loadAt, Instr.sureAddr, Sem.run_bind] using hrun
    · cases h

theorem resultsS_ok (hT : TabOK P TB) {w0 : W0} {w : World} {β : List Nat} {st : St} {a : Act} (H : StM ρ w0 β st a w) {fn : Func} {x : SV} (h : resultsS TB st fn.results.toList = some x) :
    ∃ v, SVm ρ β x v ∧ (results fn a.tmps).run P w = .ok v w := by
  obtain ⟨l, hl⟩ : ∃ l, fn.results.toList = l := ⟨_, rfl⟩
  have hl' : fn.results = l.toArray := by rw [← hl]
  rw [hl] at h
  unfold resultsS at h
  split at h
  · cases h
    refine ⟨.tuple #[], rfl, ?_⟩
    simp [results, hl']
  · rename_i r
    simp only [Option.map_eq_some_iff] at h
    obtain ⟨y, hy, h⟩ := h
    cases h
    obtain ⟨v, hm, hrun⟩ := resultS_ok hT H hy
    refine ⟨v, hm, ?_⟩
    cases r
    · simp [results, hl', show v = _ from hrun]
    · obtain ⟨q, hq, hrun⟩ := hrun
      simp [results, hl', hq, asAddr, hrun]
  · rename_i r1 r2
    split at h
    · rename_i y1 y2 e1 e2
      cases h
      obtain ⟨v1, hm1, hrun1⟩ := resultS_ok hT H e1
      obtain ⟨v2, hm2, hrun2⟩ := resultS_ok hT H e2
      refine ⟨.tuple #[v1, v2], ⟨#[v1, v2], rfl, hm1, hm2, trivial⟩, ?_⟩
      cases r1 <;> cases r2 <;> simp only [ResV] at hrun1 hrun2
      · simp [results, hl', hrun1, hrun2]
      · obtain ⟨q2, hq2, hrun2⟩ := hrun2
        simp [results, hl', hrun1, hq2, asAddr, hrun2]
      · obtain ⟨q1, hq1, hrun1⟩ := hrun1
        simp [results, hl', hrun2, hq1, asAddr, hrun1]
      · obtain ⟨q1, hq1, hrun1⟩ := hrun1
        obtain ⟨q2, hq2, hrun2⟩ := hrun2
        simp [results, hl', hq1, hq2, asAddr, hrun1, hrun2]
    · cases h
  · rename_i r1 r2 r3
    split at h
    · rename_i y1 y2 y3 e1 e2 e3
      cases h
      obtain ⟨v1, hm1, hrun1⟩ := resultS_ok hT H e1
      obtain ⟨v2, hm2, hrun2⟩ := resultS_ok hT H e2
      obtain ⟨v3, hm3, hrun3⟩ := resultS_ok hT H e3
      refine ⟨.tuple #[v1, v2, v3], ⟨#[v1, v2, v3], rfl, hm1, hm2, hm3, trivial⟩, ?_⟩
      cases r1 <;> cases r2 <;> cases r3 <;> simp only [ResV] at hrun1 hrun2 hrun3
      all_goals
        (try obtain ⟨q1, hq1, hrun1⟩ := hrun1)
        (try obtain ⟨q2, hq2, hrun2⟩ := hrun2)
        (try obtain ⟨q3, hq3, hrun3⟩ := hrun3)
        simp [results, hl', asAddr, *]
    · cases h
  · cases h

theorem all2_undef (β : List Nat) : ∀ n, all2 (SVm ρ β) (List.replicate n (.one (.lit undef))) (List.replicate n undef)
  | 0 => trivial
  | n + 1 => by rw [List.replicate_succ, List.replicate_succ]; exact ⟨rfl, all2_undef β n⟩

theorem callDT_ok (hT : TabOK P TB) (hm : P.follows .mixedOrders = true) (hF : FTok P FT) (hO : ∀ e ∈ OT, OpqOK P Φ e) (rounds : Nat) : ∀ n ro, CFok P Φ ρ ⟨ro, callDT TB FT OT rounds n⟩
  | 0, ro => fun g args st w0 β vs a w Q H ha h => h.elim
  | n + 1, ro => fun g args st w0 β vs a w Q H ha h => by
    have ih := callDT_ok hT hm hF hO rounds n w0.ro
    replace h : (callDT TB FT OT rounds (n + 1) w0.ro g args st).holds Φ ρ Q := h
    unfold callDT at h
    split at h
    · rename_i e hee
      obtain ⟨he1, rfl, he0⟩ := findE_mem hee
      have hok := hO e he1
      unfold OpqOK at hok
      rw [if_neg he0] at hok
      unfold extDT at h
      split at h
      · rename_i hlt
        have hlt : e.ext < 3 := by simpa using hlt
        rw [if_pos hlt] at hok
        split at h
        · rename_i k n
          split at h
          · rename_i hb
            simp only [Bool.and_eq_true] at hb
            obtain rfl := sameKind_eq hb.1
            refine Or.inr ?_
            obtain ⟨l⟩ := vs
            match l, ha with
            | [v], ⟨h1, _⟩ =>
              obtain rfl : v = _ := h1
              exact ⟨_, w, hok n w hb.2, _, _, [], rfl, h, rfl, by simpa using H.heap, H.stays, H.facts⟩
          · exact h.elim
        · exact h.elim
      · rename_i hlt
        rw [if_neg (by simpa using hlt)] at hok
        split at h
        · rename_i ds ids hs
          obtain ⟨hd, h⟩ := DT.holds_mks _ _ h
          obtain ⟨hd2, h⟩ := DT.holds_mks _ _ h
          obtain ⟨v, w', hrun, hr, hst⟩ := hok vs (ids.map ρ) w (asShs_ok hs hd ha)
          exact Or.inr ⟨v, w', hrun, v, _, [], rfl, h, resR_ok hd2 hr, by simpa using H.heap.on hst, H.stays.trans hst, H.facts⟩
        · exact h.elim
    split at h
    · exact h.elim
    rename_i fn hfn
    have hf := hF g fn (findF_mem hfn)
    refine Or.inl ⟨⟨fn, hf⟩, ?_⟩
    split at h
    · rename_i e he
      obtain ⟨he1, rfl, he0⟩ := findO_mem he
      exact opqDT_ok (hO e he1) he0 H ha h
    · split at h
      · exact h.elim
      rename_i c hc
      split at h
      · exact h.elim
      rename_i hsm
      refine calls_of_wp hf.1 hc (codeDT_ok hT ih rfl (softDF_ok hT hm ih) rounds c _ ⟨Tr.start (args.length + (fn.ntmps - args.length)) args, st.heap, st.facts⟩ β _ w ⟨?_, H.heap, H.stays, H.facts, rfl⟩ (DT.holds_mono ?_ _ (DT.holds_bind _ h)))
      · exact TM.start fn.ntmps (Nat.le_of_ble_eq_true hsm) ha
      · rintro ⟨e, st'⟩ hr γ a' w' H'
        have key : ∀ v, resultsS TB st' fn.results.toList = some v → Q (v, ⟨.nil, st'.heap, st'.facts⟩) → bodyPost P fn (fun e w' => ∃ v r γ, e = .returned v ∧ Q r ∧ SVm ρ (β ++ γ) r.1 v ∧ HeapM ρ w0 (β ++ γ) r.2.heap w' ∧ Stays w0.w w' ∧ (∀ c x, (c, x) ∈ r.2.facts → (ρ c).gb = x)) .ret a' w' := by
          intro v hv hq
          obtain ⟨u, hum, hrun⟩ := resultsS_ok hT H' hv
          exact bodyPost_ret hrun H'.defers ⟨u, _, γ, rfl, hq, hum, H'.heap, H'.stays, H'.facts⟩
        cases e with
        | exit id => exact hr.elim
        | normal =>
          simp only at hr
          split at hr
          · rename_i v hv
            obtain ⟨hd, u, h1, h2⟩ := key v hv hr
            exact ⟨hd, u, h1, h2⟩
          · exact hr.elim
        | ret =>
          simp only at hr
          split at hr
          · rename_i v hv
            exact key v hv hr
          · exact hr.elim
end
end Go.Proofs.Ytcopccniijkceaa
