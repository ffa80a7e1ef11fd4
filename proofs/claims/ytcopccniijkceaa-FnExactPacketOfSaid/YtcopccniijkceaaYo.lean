/- How arguments that are made of numbers alone are opened, whatever their type, and read behind the call as before. No condition. -/
import Derived.Test.YtcopccniijkceaaRows
import Derived.Test.YtcopccniijkceaaY8
import Derived.ProofKit
import Derived.OpenShut
import Derived.ShutString
import Derived.ChangeOld
import Derived.ChangeArms
import Derived.Carry
namespace Go.Proofs.Ytcopccniijkceaa
open Go Go.ChangeShapes Go.WideShapes Go.ChangeAt Go.RowKit
set_option linter.unusedVariables false
set_option linter.unusedSimpArgs false

def scalF (P : Program) (g : TypeId → Option (List Kd)) : Nat → List Field → Option (List Kd)
  | _, [] => some []
  | off, f :: r => if Nat.beq f.offset off then match g f.type with
    | some ks => if Nat.beq (P.cellsOf f.type) ks.length then (scalF P g (off + ks.length) r).map (ks ++ ·) else none
    | none => none
    else none

def repK (ks : List Kd) : Nat → List Kd
  | 0 => []
  | n + 1 => repK ks n ++ ks

def scalK (P : Program) : Nat → TypeId → Option (List Kd)
  | 0, _ => none
  | n + 1, t => match P.underlying t with
    | some .bool => some [.b]
    | some (.int k) => some [.i k]
    | some (.float k) => some [.f k]
    | some (.array m e) => match scalK P n e with
      | some ks => if Nat.beq (P.cellsOf e) ks.length && Nat.beq (P.cellsOf t) (m * ks.length) then some (repK ks m) else none
      | none => none
    | some (.struct fs) => match scalF P (scalK P n) 0 fs.toList with
      | some ks => if Nat.beq (P.cellsOf t) ks.length then some ks else none
      | none => none
    | _ => none

def shOf (P : Program) (t : TypeId) : Option Sh := match P.underlying t with
  | some (.array ..) | some (.struct _) => (scalK P 12 t).map .agg
  | some (.bool) => some (.one .b)
  | some (.int k) => some (.one (.i k))
  | some (.float k) => some (.one (.f k))
  | _ => none

def shsOf (P : Program) : List TypeId → Option (List Sh)
  | [] => some []
  | t :: r => match shOf P t, shsOf P r with
    | some s, some ss => some (s :: ss)
    | _, _ => none

theorem KMs_append : ∀ {k1 k2 : List Kd} {v1 v2 : List Value} {n1 n2 : List NV}, KMs k1 v1 n1 → KMs k2 v2 n2 → KMs (k1 ++ k2) (v1 ++ v2) (n1 ++ n2)
  | [], _, [], _, [], _, _, h => h
  | _ :: _, _, _ :: _, _, _ :: _, _, ⟨a, b⟩, h => ⟨a, KMs_append b h⟩

theorem KMs_vlength : ∀ {ks : List Kd} {vs : List Value} {ns : List NV}, KMs ks vs ns → vs.length = ks.length
  | [], [], [], _ => rfl
  | _ :: _, _ :: _, _ :: _, ⟨_, h⟩ => by simp [KMs_vlength h]

/-- Integers lie within their kinds. -/
def RGs : List Kd → List NV → Prop
  | [], [] => True
  | k :: ks, n :: ns => (match k with | .i k => (Lit.int k n.gi).wf = true | _ => True) ∧ RGs ks ns
  | _, _ => False

def shKs : Sh → List Kd
  | .one k => [k]
  | .agg l => l

def allKs : List Sh → List Kd
  | [] => []
  | s :: r => shKs s ++ allKs r

theorem RGs_append : ∀ {k1 k2 : List Kd} {n1 n2 : List NV}, RGs k1 n1 → RGs k2 n2 → RGs (k1 ++ k2) (n1 ++ n2)
  | [], _, [], _, _, h => h
  | _ :: _, _, _ :: _, _, ⟨a, b⟩, h => ⟨a, RGs_append b h⟩

theorem RGs_at : ∀ {ks : List Kd} {ns : List NV} (j : Nat) {k : IntKind}, RGs ks ns → ks[j]? = some (.i k) → (Lit.int k (ns.getD j (.i 0)).gi).wf = true
  | [], [], j, k, _, h => by simp at h
  | c :: ks, n :: ns, 0, k, ⟨a, b⟩, h => by
    have h : c = .i k := by simpa using h
    subst h
    simpa using a
  | c :: ks, n :: ns, j + 1, k, ⟨a, b⟩, h => by
    have := RGs_at (ns := ns) j b (by simpa using h)
    simpa using this

theorem wf_fk {k : FloatKind} {b : Nat} (h : (Lit.float k b).wf = true) : b < 2 ^ k.format.width := by
  cases k
  · have h' : b < 2 ^ 32 := by simpa [Lit.wf] using h
    exact h'
  · have h' : b < 2 ^ 64 := by simpa [Lit.wf] using h
    exact h'

section
variable {H : Type} {enc : TypeId × Value → H} {P : Program} {w : World} {base : Nat} {spare : Nat → Bool} {held : Bool}

theorem take_take_drop {α : Type} (cs : List α) (a b : Nat) : cs.take (a + b) = cs.take a ++ (cs.drop a).take b := List.take_add

theorem trod_scal : ∀ (n : Nat) (t : TypeId) (ks : List Kd) (fuel : Nat) (cs : List Value) (x : DataW H × List MemPlace), scalK P n t = some ks → DataW.trod enc P w base spare held fuel t cs = some x → ∃ ins, KMs ks cs ins ∧ RGs ks ins
  | 0, t, ks, fuel, cs, x, h, _ => by cases h
  | n + 1, t, ks, fuel, cs, x, h, hx => by
    unfold scalK at h
    split at h
    · rename_i hu
      cases h
      cases fuel with
      | zero => simp [DataW.trod] at hx
      | succ m =>
        unfold DataW.trod at hx
        rw [hu] at hx
        match cs, hx with
        | [.bool b], _ => exact ⟨[.b b], ⟨rfl, trivial⟩, trivial, trivial⟩
    · rename_i k hu
      cases h
      cases fuel with
      | zero => simp [DataW.trod] at hx
      | succ m =>
        unfold DataW.trod at hx
        rw [hu] at hx
        match cs, hx with
        | [.int k' i], hx =>
          by_cases hk : k' = k ∧ (Lit.int k i).wf = true
          · obtain ⟨rfl, hw⟩ := hk; exact ⟨[.i i], ⟨rfl, trivial⟩, hw, trivial⟩
          · simp [hk] at hx
    · rename_i k hu
      cases h
      cases fuel with
      | zero => simp [DataW.trod] at hx
      | succ m =>
        unfold DataW.trod at hx
        rw [hu] at hx
        match cs, hx with
        | [.float k' b], hx =>
          by_cases hk : k' = k ∧ (Lit.float k b).wf = true
          · obtain ⟨rfl, hw⟩ := hk
            exact ⟨[.f (can k' b)], ⟨⟨b, rfl, FIs.self (wf_fk hw)⟩, trivial⟩, trivial, trivial⟩
          · simp [hk] at hx
    · rename_i m e hu
      split at h
      case h_2 => cases h
      rename_i ke hke
      split at h
      case isFalse => cases h
      rename_i hc
      simp only [Bool.and_eq_true] at hc
      have hc1 := Nat.eq_of_beq_eq_true hc.1
      have hc2 := Nat.eq_of_beq_eq_true hc.2
      cases h
      obtain ⟨xs, f', _, _, hlen, hl, hel⟩ := DataW.trod_array hu hx
      have key : ∀ j, j ≤ m → ∃ ins, KMs (repK ke j) (cs.take (j * ke.length)) ins ∧ RGs (repK ke j) ins := by
        intro j
        induction j with
        | zero => intro _; exact ⟨[], by simp [repK, KMs, RGs]⟩
        | succ j ih =>
          intro hj
          obtain ⟨i1, h1, g1⟩ := ih (by omega)
          have hj' := hel j (by omega)
          have hxs : xs[j]? = some xs[j] := List.getElem?_eq_getElem (by omega)
          rw [hxs] at hj'
          obtain ⟨i2, h2, g2⟩ := trod_scal n e ke f' _ _ hke hj'
          rw [hc1] at h2
          refine ⟨i1 ++ i2, ?_⟩
          rw [show (j + 1) * ke.length = j * ke.length + ke.length by rw [Nat.add_mul, Nat.one_mul], take_take_drop]
          exact ⟨KMs_append h1 h2, RGs_append g1 g2⟩
      obtain ⟨ins, hk⟩ := key m (Nat.le_refl m)
      rw [List.take_of_length_le (by omega)] at hk
      exact ⟨ins, hk⟩
    · rename_i fs hu
      split at h
      case h_2 => cases h
      rename_i ks' hks
      split at h
      case isFalse => cases h
      rename_i hc
      have hc := Nat.eq_of_beq_eq_true hc
      cases h
      obtain ⟨xs, f', _, _, hlen, hl, hel⟩ := DataW.trod_struct hu hx
      have key : ∀ (l : List Field) (i off : Nat) (kl : List Kd), scalF P (scalK P n) off l = some kl → (∀ j f, l[j]? = some f → fs[i + j]? = some f) → ∃ ins, KMs kl ((cs.drop off).take kl.length) ins ∧ RGs kl ins := by
        intro l
        induction l with
        | nil => intro i off kl h _; cases h; exact ⟨[], by simp [KMs, RGs]⟩
        | cons f l ih =>
          intro i off kl h hf
          unfold scalF at h
          split at h
          case isFalse => cases h
          rename_i ho
          have ho := Nat.eq_of_beq_eq_true ho
          split at h
          case h_2 => cases h
          rename_i kf hkf
          split at h
          case isFalse => cases h
          rename_i hcf
          have hcf := Nat.eq_of_beq_eq_true hcf
          simp only [Option.map_eq_some_iff] at h
          obtain ⟨kr, hkr, rfl⟩ := h
          have hfi : fs[i]? = some f := by simpa using hf 0 f rfl
          have hi : i < fs.size := (Array.getElem?_eq_some_iff.1 hfi).1
          have hj' := hel i f hfi
          have hxs : xs[i]? = some xs[i] := List.getElem?_eq_getElem (by omega)
          rw [hxs, ho, hcf] at hj'
          obtain ⟨i1, h1, g1⟩ := trod_scal n f.type kf f' _ _ hkf hj'
          obtain ⟨i2, h2, g2⟩ := ih (i + 1) (off + kf.length) kr hkr (fun j g hg => by
            have := hf (j + 1) g (by simpa using hg)
            rw [show i + 1 + j = i + (j + 1) by omega]; exact this)
          refine ⟨i1 ++ i2, ?_⟩
          rw [List.length_append, take_take_drop, List.drop_drop]
          exact ⟨KMs_append h1 h2, RGs_append g1 g2⟩
      obtain ⟨ins, hk⟩ := key fs.toList 0 0 ks hks (fun j f hj => by simpa using hj)
      rw [List.drop_zero, List.take_of_length_le (by omega)] at hk
      exact ⟨ins, hk⟩
    · cases h

theorem open_sh {r : Reach} {b0 : Nat} {t : TypeId} {v : Value} {d : DataW H} {p : List MemPlace} {s : Sh} (hs : shOf P t = some s) (hval : Value.okWide P w r b0 t v) (hd : DataW.Trod enc P w base spare held t v d p) : ∃ ins, ShM s v ins ∧ RGs (shKs s) ins := by
  have agg : ∀ cs : Array Value, v = .agg cs → (scalK P 12 t).map Sh.agg = some s → ∃ ins, ShM s v ins ∧ RGs (shKs s) ins := by
    rintro cs rfl h
    simp only [Option.map_eq_some_iff] at h
    obtain ⟨ks, hk, rfl⟩ := h
    obtain ⟨fuel, hf⟩ := hd
    obtain ⟨ins, hi, hg⟩ := trod_scal 12 t ks fuel _ _ hk hf
    exact ⟨ins, ⟨cs, rfl, hi⟩, hg⟩
  unfold shOf at hs
  split at hs
  · rename_i m e hu
    unfold Value.okWide at hval
    rw [hu] at hval
    obtain ⟨cs, hv, _⟩ := hval
    exact agg cs hv hs
  · rename_i fs hu
    unfold Value.okWide at hval
    rw [hu] at hval
    obtain ⟨cs, hv, _⟩ := hval
    exact agg cs hv hs
  · rename_i hu
    cases hs
    obtain ⟨b, rfl, _⟩ := open_bool hu hval hd
    exact ⟨[.b b], ⟨_, rfl, rfl⟩, trivial, trivial⟩
  · rename_i k hu
    cases hs
    obtain ⟨b, rfl, _, _, hw⟩ := open_int hu hval hd
    exact ⟨[.i b], ⟨_, rfl, rfl⟩, hw, trivial⟩
  · rename_i k hu
    cases hs
    obtain ⟨b, rfl, _, _, hw⟩ := open_float hu hval hd
    exact ⟨[.f (can k b)], ⟨_, rfl, b, rfl, FIs.self (wf_fk hw)⟩, trivial, trivial⟩
  · cases hs

theorem open_all' {r : Reach} {b0 : Nat} : ∀ {ts : List TypeId} {vs : List Value} {ds : List (DataW H)} {p : List MemPlace} {ss : List Sh}, shsOf P ts = some ss → (∀ (j : Nat) t v, ts[j]? = some t → vs[j]? = some v → Value.okWide P w r b0 t v) →
    DataW.TrodAll enc P w base spare held ts vs ds p → ∃ ins, ShMs ss vs ins ∧ RGs (allKs ss) ins
  | [], vs, ds, p, ss, hs, _, h => by
    cases hs
    obtain ⟨rfl, _, _⟩ := trodAll_nil h
    exact ⟨[], rfl, trivial⟩
  | t :: ts, vs, ds, p, ss, hs, hv, h => by
    obtain ⟨v, vs', d, ds', p', q, rfl, rfl, rfl, h1, h2⟩ := trodAll_cons h
    unfold shsOf at hs
    split at hs
    · rename_i s ss' e1 e2
      cases hs
      obtain ⟨i1, m1, g1⟩ := open_sh e1 (hv 0 t v rfl rfl) h1
      obtain ⟨i2, m2, g2⟩ := open_all' e2 (fun j t v ht hv' => hv (j + 1) t v (by simpa using ht) (by simpa using hv')) h2
      exact ⟨i1 ++ i2, ⟨i1, i2, rfl, m1, m2⟩, RGs_append g1 g2⟩
    · cases hs

theorem open_all {r : Reach} {b0 : Nat} {ts : List TypeId} {vs : List Value} {ds : List (DataW H)} {p : List MemPlace} {ss : List Sh} (hs : shsOf P ts = some ss) (hv : ∀ (j : Nat) t v, ts[j]? = some t → vs[j]? = some v → Value.okWide P w r b0 t v)
    (h : DataW.TrodAll enc P w base spare held ts vs ds p) : ∃ ins, ShMs ss vs ins := by
  obtain ⟨ins, h, _⟩ := open_all' hs hv h
  exact ⟨ins, h⟩

end

theorem all_trod {H : Type} {enc : TypeId × Value → H} {P : Program} (hl : laidOutB P = true) {W W' : World} (hb : Below W.heap.size W W') : ∀ {ts : List TypeId} {vs : List Value} {ds : List (DataW H)} {p : List MemPlace},
    (ts.all fun t => P.readableRec t && decide (t < P.types.size)) = true → DataW.TrodAll enc P W 0 (fun _ => true) true ts vs ds p → DataW.TrodAll enc P W' 0 (fun b => decide (b < W.heap.size)) true ts vs ds p
  | [], vs, ds, p, _, h => by
    obtain ⟨rfl, rfl, rfl⟩ := trodAll_nil h
    exact trodAll_mk0
  | t :: ts, vs, ds, p, hc, h => by
    obtain ⟨v, vs', d, ds', p', q, rfl, rfl, rfl, h1, h2⟩ := trodAll_cons h
    simp only [List.all_cons, Bool.and_eq_true, decide_eq_true_eq] at hc
    have lt : ∀ x ∈ p', x.block < W.heap.size := by obtain ⟨m, hm⟩ := h1; exact DataW.trod_lt m _ _ _ hm
    exact trodAll_cons_mk (Below.trod hl hc.1.1 hc.1.2 h1 hb lt) (all_trod hl hb (by simpa using hc.2) h2)
end Go.Proofs.Ytcopccniijkceaa
