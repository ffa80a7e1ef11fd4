/- A symbolic walk: parts of arrays as slices. No condition. -/
import Derived.Test.YtcopccniijkceaaY2
import Derived.Laws.Slices
import Derived.Laws.Cover3
namespace Go.Proofs.Ytcopccniijkceaa
open Go Go.RowKit
set_option linter.unusedVariables false
set_option linter.unusedSimpArgs false

noncomputable def ixOf : SV → Option Nat
  | .p (.one (.lit (.int _ (.ofNat j)))) => some j
  | _ => none

noncomputable def optIx : Option SV → Option (Option Nat)
  | none => some none
  | some x => match ixOf x with
    | some j => some (some j)
    | none => none

noncomputable def rowD : TypeDesc → Option (Bool × Nat × TypeId)
  | .array n e => some (true, n, e)
  | .slice e => some (false, 0, e)
  | _ => none

noncomputable def sliceR (b off cap size l h : Nat) : Option SV :=
  if Nat.ble l h && Nat.ble h cap then some (.one (.slc b (match Nat.beq cap l with | true => off | false => off + l * size) (h - l) (cap - l))) else none

noncomputable def sliceS (TB : Tab) (t : TypeId) (x : SV) (lo hi : Option SV) : Option SV :=
  match optIx lo, optIx hi, TB t with
  | some l, some h, some ti => match x, rowD ti.desc with
    | .p (.one (.ptr b off)), some (true, n, e) => match TB e with
      | some te => sliceR b off n te.size (l.getD 0) (h.getD n)
      | none => none
    | .p (.one (.slc b off len cap)), some (false, _, e) => match TB e with
      | some te => sliceR b off cap te.size (l.getD 0) (h.getD len)
      | none => none
    | _, _ => none
  | _, _, _ => none

noncomputable def indexSl (TB : Tab) (t : TypeId) (a i : SV) : Option SV :=
  match a, ixOf i, TB t with
  | .p (.one (.slc b off len cap)), some j, some ti => match rowD ti.desc with
    | some (false, _, e) => match TB e with
      | some te => if Nat.blt j len then some (.one (.ptr b (off + j * te.size))) else none
      | none => none
    | _ => none
  | _, _, _ => none

noncomputable def arrayS (TB : Tab) (t : TypeId) (x : SV) : Option SV :=
  match x, TB t with
  | .p (.one (.slc b off len cap)), some ti => match rowD ti.desc with
    | some (true, n, _) => if Nat.ble n len then some (.one (.ptr b off)) else none
    | _ => none
  | _, _ => none

/-- The length, the capacity. -/
noncomputable def lenS (TB : Tab) (b : Builtin) (t : TypeId) (x : SV) : Option SV :=
  match b, x, TB t with
  | .len, .p (.one (.slc _ _ len _)), some ti => match rowD ti.desc with
    | some (false, _, _) => some (.one (.lit (.int .i64 (.ofNat len))))
    | _ => none
  | .cap, .p (.one (.slc _ _ _ cap)), some ti => match rowD ti.desc with
    | some (false, _, _) => some (.one (.lit (.int .i64 (.ofNat cap))))
    | _ => none
  | _, _, _ => none

section
variable {ρ : Nat → NV} {β : List Nat} {P : Program} {w : World} {TB : Tab}

theorem ixOf_ok {x : SV} {j : Nat} {v : Value} (h : ixOf x = some j) (hx : SVm ρ β x v) : ∃ k, v = .int k (j : Int) := by
  unfold ixOf at h
  split at h
  · rename_i k i
    cases h
    exact ⟨k, hx⟩
  · cases h

/-- A bound that may be left out. -/
noncomputable def Bnd (o : Option Value) (d n : Nat) : Prop := match o with
  | none => n = d
  | some v => ∃ k, v = .int k (n : Int)

theorem optIx_ok {ev : Operand → SV} {cv : Operand → Value} (hev : ∀ x, SVm ρ β (ev x) (cv x)) {o : Option Operand} {r : Option Nat} (h : optIx (o.map ev) = some r) (d : Nat) : Bnd (o.map cv) d (r.getD d) := by
  cases o with
  | none => cases h; rfl
  | some x =>
    simp only [Option.map_some, optIx] at h
    split at h
    · rename_i j hj
      cases h
      exact ixOf_ok hj (hev x)
    · cases h

theorem run_bounds {isS : Bool} {len cap l h : Nat} {lo hi : Option Value} (h1 : Bnd lo 0 l) (h2 : Bnd hi len h) (h3 : l ≤ h) (h4 : h ≤ cap) :
    (Instr.sliceBounds isS len cap lo hi none).run P w = .ok (l, h, cap) w := by
  have e1 : (l : Int) ≤ (h : Int) := by omega
  have e2 : (h : Int) ≤ (cap : Int) := by omega
  have e3 : (0 : Int) ≤ (l : Int) := by omega
  have e4 : (0 : Int) ≤ (h : Int) := by omega
  cases lo with
  | none =>
    have h1 : l = 0 := h1
    subst h1
    cases hi with
    | none =>
      have h2 : h = len := h2
      subst h2
      simp [Instr.sliceBounds]
    | some v =>
      obtain ⟨k, rfl⟩ := h2
      simp [Instr.sliceBounds, run_sliceBound w k h cap _ e4 e2]
  | some v =>
    obtain ⟨k, rfl⟩ := h1
    cases hi with
    | none =>
      have h2 : h = len := h2
      subst h2
      simp [Instr.sliceBounds, run_sliceBound w k l h _ e3 e1]
    | some v =>
      obtain ⟨k', rfl⟩ := h2
      simp [Instr.sliceBounds, run_sliceBound w k' h cap _ e4 e2, run_sliceBound w k l h _ e3 e1]

theorem sliceR_ok {b off cap size l h : Nat} {r : SV} {p : Nat} (hr : sliceR b off cap size l h = some r) (hp : β[b]? = some p) :
    l ≤ h ∧ h ≤ cap ∧ SVm ρ β r (.slice (some (if cap = l then ⟨p, off, none⟩ else (⟨p, off, none⟩ : Addr).add (l * size))) (h - l) (cap - l)) := by
  unfold sliceR at hr
  split at hr
  · rename_i hc
    simp only [Bool.and_eq_true] at hc
    cases hr
    refine ⟨Nat.le_of_ble_eq_true hc.1, Nat.le_of_ble_eq_true hc.2, p, hp, ?_⟩
    have hadd : (⟨p, off, none⟩ : Addr).add (l * size) = ⟨p, off + l * size, none⟩ := Addr.add_mid _ _ _
    rw [hadd]
    cases hb : Nat.beq cap l with
    | true => rw [if_pos (Nat.eq_of_beq_eq_true hb)]
    | false => rw [if_neg (fun e => by rw [e, Nat.beq_refl] at hb; cases hb)]
  · cases hr

theorem rowD_ok {d : TypeDesc} {a : Bool} {n : Nat} {e : TypeId} (h : rowD d = some (a, n, e)) : d = match a with | true => .array n e | false => .slice e := by
  cases d <;> simp only [rowD] at h <;> first | cases h | skip
  all_goals rfl

theorem sliceS_ok (hT : TabOK P TB) {ev : Operand → SV} {cv : Operand → Value} (hev : ∀ x, SVm ρ β (ev x) (cv x)) {t : TypeId} {x : Operand} {lo hi : Option Operand} {r : SV} (h : sliceS TB t (ev x) (lo.map ev) (hi.map ev) = some r) :
    ∃ v, (Instr.sliceAt t (cv x) (lo.map cv) (hi.map cv) none).run P w = .ok v w ∧ SVm ρ β r v := by
  have hx := hev x
  unfold sliceS at h
  split at h
  case h_2 => cases h
  rename_i l hh ti hl hhi hti
  obtain ⟨hu, _, _⟩ := hT _ _ hti
  split at h
  · rename_i b off n e hxe hd
    rw [hxe] at hx
    obtain ⟨p, hp, hx⟩ := hx
    rw [rowD_ok hd] at hu
    simp only at hu
    split at h
    case h_2 => cases h
    rename_i te hte
    obtain ⟨_, hs, _⟩ := hT _ _ hte
    cases hq : P.info? e with
    | none => simp [hq] at hs
    | some ie =>
      have hs' : ie.size = te.size := by simpa [hq] using hs
      obtain ⟨h1, h2, h3⟩ := sliceR_ok (ρ := ρ) h hp
      refine ⟨_, ?_, h3⟩
      have hb := run_bounds (P := P) (w := w) (isS := false) (cap := n) (optIx_ok hev hl 0) (optIx_ok hev hhi n) h1 h2
      rw [hx]
      simp [Instr.sliceAt, run_underlying hu, Instr.sureAddr, hb, sizeOf, typeInfo, hq, hs']
  · rename_i b off len cap u e hxe hd
    rw [hxe] at hx
    obtain ⟨p, hp, hx⟩ := hx
    rw [rowD_ok hd] at hu
    simp only at hu
    split at h
    case h_2 => cases h
    rename_i te hte
    obtain ⟨_, hs, _⟩ := hT _ _ hte
    cases hq : P.info? e with
    | none => simp [hq] at hs
    | some ie =>
      have hs' : ie.size = te.size := by simpa [hq] using hs
      obtain ⟨h1, h2, h3⟩ := sliceR_ok (ρ := ρ) h hp
      refine ⟨_, ?_, h3⟩
      have hb := run_bounds (P := P) (w := w) (isS := true) (cap := cap) (optIx_ok hev hl 0) (optIx_ok hev hhi len) h1 h2
      rw [hx]
      simp [Instr.sliceAt, Instr.slice, run_underlying hu, hb, sizeOf, typeInfo, hq, hs']
      split <;> rfl
  · cases h

theorem indexSl_ok (hT : TabOK P TB) {t : TypeId} {a i : SV} {r : SV} {va vi : Value} (h : indexSl TB t a i = some r) (ha : SVm ρ β a va) (hi : SVm ρ β i vi) :
    ∃ v, (Instr.indexAt t va vi).run P w = .ok v w ∧ SVm ρ β r v := by
  unfold indexSl at h
  split at h
  case h_2 => cases h
  rename_i b off len cap j ti hj hti
  obtain ⟨p, hp, rfl⟩ := ha
  obtain ⟨k, rfl⟩ := ixOf_ok hj hi
  obtain ⟨hu, _, _⟩ := hT _ _ hti
  split at h
  case h_2 => cases h
  rename_i u e hd
  rw [rowD_ok hd] at hu
  simp only at hu
  split at h
  case h_2 => cases h
  rename_i te hte
  split at h
  case isFalse => cases h
  rename_i hlt
  cases h
  have hlt' : j < len := by simpa using hlt
  obtain ⟨_, hs, _⟩ := hT _ _ hte
  cases hq : P.info? e with
  | none => simp [hq] at hs
  | some ie =>
    have hs' : ie.size = te.size := by simpa [hq] using hs
    refine ⟨.pointer (some ⟨p, off + j * te.size, none⟩), ?_, p, hp, rfl⟩
    have hadd : (⟨p, off, none⟩ : Addr).add (j * te.size) = ⟨p, off + j * te.size, none⟩ := Addr.add_mid _ _ _
    simp [Instr.indexAt, run_underlying hu, asIntOf, Instr.sureAddr, sizeOf, typeInfo, hq, hs', hlt', hadd]

theorem arrayS_ok (hT : TabOK P TB) {t : TypeId} {x : SV} {r : SV} {vx : Value} (h : arrayS TB t x = some r) (hx : SVm ρ β x vx) : ∃ v, (Instr.arrayAt t vx).run P w = .ok v w ∧ SVm ρ β r v := by
  unfold arrayS at h
  split at h
  case h_2 => cases h
  rename_i b off len cap ti hti
  obtain ⟨p, hp, rfl⟩ := hx
  obtain ⟨hu, _, _⟩ := hT _ _ hti
  split at h
  case h_2 => cases h
  rename_i n e hd
  rw [rowD_ok hd] at hu
  simp only at hu
  split at h
  case isFalse => cases h
  rename_i hle
  cases h
  exact ⟨_, run_arrayAt w t e n _ len cap hu (Nat.le_of_ble_eq_true hle), p, hp, rfl⟩

theorem lenS_ok (hT : TabOK P TB) {b : Builtin} {ts : Array TypeId} {ty : TypeId} {x : SV} {r : SV} {vx : Value} (h : lenS TB b (ts.getD 0 0) x = some r) (h0 : 0 < ts.size) (hx : SVm ρ β x vx) :
    ∃ v, (b = .len ∧ (Builtin.len_ ts ty #[vx]).run P w = .ok v w ∨ b = .cap ∧ (Builtin.cap_ ts ty #[vx]).run P w = .ok v w) ∧ SVm ρ β r v := by
  have ht : ts[0]? = some (ts.getD 0 0) := by simp [Array.getD_eq_getD_getElem?, h0]
  generalize ts.getD 0 0 = t0 at h ht
  unfold lenS at h
  split at h
  · rename_i u1 u2 len u3 ti hti
    obtain ⟨p, hp, rfl⟩ := hx
    obtain ⟨hu, _, _⟩ := hT _ _ hti
    split at h
    case h_2 => cases h
    rename_i n e hd
    rw [rowD_ok hd] at hu
    simp only at hu
    cases h
    refine ⟨_, Or.inl ⟨rfl, ?_⟩, rfl⟩
    simp only [Builtin.len_, ht]
    simp [run_underlying hu, goInt]
  · rename_i u1 u2 u3 cap ti hti
    obtain ⟨p, hp, rfl⟩ := hx
    obtain ⟨hu, _, _⟩ := hT _ _ hti
    split at h
    case h_2 => cases h
    rename_i n e hd
    rw [rowD_ok hd] at hu
    simp only at hu
    cases h
    refine ⟨_, Or.inr ⟨rfl, ?_⟩, rfl⟩
    simp only [Builtin.cap_, ht]
    simp [run_underlying hu, goInt]
  · cases h
end
end Go.Proofs.Ytcopccniijkceaa
