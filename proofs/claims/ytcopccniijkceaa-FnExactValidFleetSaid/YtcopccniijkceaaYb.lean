/- Bounds of the sizes of nodes, as a function that the kernel can run. No condition. -/
import Derived.Test.YtcopccniijkceaaY8
import Derived.Test.YtcopccniijkceaaFn
import Derived.Test.YtcopccniijkceaaOb
namespace Go.Proofs.Ytcopccniijkceaa
open Go Go.RowKit
set_option linter.unusedVariables false
set_option linter.unusedSimpArgs false

/-- What is known of a node's size. -/
structure Bd where
  up : Option (Nat × Int) := none
  lo : Option (Nat × Int) := none
  nn : Bool := false
  one : Bool := false

noncomputable def SatB (b : Bd) (v : NV) : Prop := ∀ c, v.gf = some c →
  (∀ M P, b.up = some (M, P) → AbsLe M P (Ieee.double.read c)) ∧ (∀ M P, b.lo = some (M, P) → GeB M P (Ieee.double.read c)) ∧ (b.nn = true → NonNeg (Ieee.double.read c)) ∧ (b.one = true → c = oneF64)

theorem SatB.none (v : NV) : SatB {} v := fun c _ => ⟨fun M P h => (by cases h), fun M P h => (by cases h), fun h => (by cases h), fun h => (by cases h)⟩
theorem SatB.upOnly {M : Nat} {P : Int} {v : NV} (h : ∀ c, v.gf = some c → AbsLe M P (Ieee.double.read c)) : SatB { up := some (M, P) } v :=
  fun c hc => ⟨fun M' P' e => by cases e; exact h c hc, fun M P h => (by cases h), fun h => (by cases h), fun h => (by cases h)⟩

abbrev BEnv := List (Nat × Bd)
noncomputable def EnvOK (ρ : Nat → NV) (B : BEnv) : Prop := ∀ e ∈ B, SatB e.2 (ρ e.1)

noncomputable def findB (n : Nat) : BEnv → Bd
  | [] => {}
  | (m, b) :: r => if Nat.beq m n then b else findB n r
theorem findB_ok {ρ : Nat → NV} {n : Nat} : ∀ {B : BEnv}, EnvOK ρ B → SatB (findB n B) (ρ n)
  | [], _ => SatB.none _
  | (m, b) :: r, h => by
    unfold findB
    split
    · rename_i hm
      rw [← Nat.eq_of_beq_eq_true hm]
      exact h _ List.mem_cons_self
    · exact findB_ok fun e he => h e (List.mem_cons_of_mem _ he)

noncomputable def findD (n : Nat) : List Df → Option Df
  | [] => none
  | d :: r => if Nat.beq d.id n then some d else findD n r
theorem findD_ok {n : Nat} {d : Df} : ∀ {T : List Df}, findD n T = some d → d ∈ T ∧ d.id = n
  | [], h => (by cases h)
  | e :: r, h => by
    unfold findD at h
    split at h
    · rename_i hm; cases h; exact ⟨List.mem_cons_self, Nat.eq_of_beq_eq_true hm⟩
    · exact ⟨List.mem_cons_of_mem _ (findD_ok h).1, (findD_ok h).2⟩

/-- A bound a little greater, with few digits. -/
noncomputable def normB (M : Nat) (P : Int) : Nat × Int :=
  let k := max (M.log2 - 40) (-1000 - P).toNat
  (M / 2 ^ k + 1, P + k)

noncomputable def levB (m : Nat) (p : Int) (M : Nat) (P : Int) : Bool := Nat.ble (sc m p (min p P)) (sc M P (min p P))
theorem levB_ok {m M : Nat} {p P : Int} (h : levB m p M P = true) : LeV m p M P := Nat.le_of_ble_eq_true h

noncomputable def addB (a b : Nat × Int) : Option (Nat × Int) :=
  let s := sc a.1 a.2 (min a.2 b.2) + sc b.1 b.2 (min a.2 b.2)
  let k := normB s (min a.2 b.2)
  if levB s (min a.2 b.2) k.1 k.2 && okB k.1 k.2 then some k else none
noncomputable def mulB (a b : Nat × Int) : Option (Nat × Int) :=
  let k := normB (a.1 * b.1) (a.2 + b.2)
  if levB (a.1 * b.1) (a.2 + b.2) k.1 k.2 && okB k.1 k.2 then some k else none
noncomputable def divB (a b : Nat × Int) : Option (Nat × Int) :=
  let k := normB (a.1 * 2 ^ 60 / b.1 + 1) (a.2 - b.2 - 60)
  if levB (a.1 * (2 ^ 54 + 1)) a.2 (k.1 * b.1 * 2 ^ 54) (k.2 + b.2) && okB k.1 k.2 then some k else none

noncomputable def upOf (f : Option (Nat × Int)) : Bd := { up := f }

noncomputable def both (f : Nat × Int → Nat × Int → Option (Nat × Int)) : Option (Nat × Int) → Option (Nat × Int) → Option (Nat × Int)
  | some a, some b => f a b
  | _, _ => none
theorem both_ok {f : Nat × Int → Nat × Int → Option (Nat × Int)} {x y : Option (Nat × Int)} {k : Nat × Int} (h : both f x y = some k) : ∃ a b, x = some a ∧ y = some b ∧ f a b = some k := by
  cases x <;> cases y <;> first | exact ⟨_, _, rfl, rfl, h⟩ | cases h

noncomputable def constB (b : Nat) : Bd :=
  match Ieee.double.read b with
  | .number s m p => { up := some (m, p), lo := if Nat.beq m 0 then none else some (m, p), nn := !s || Nat.beq m 0, one := Nat.beq b oneF64 }
  | _ => {}

/-- The greatest integer below is the symbol fl; the wide root is the symbol 4. -/
noncomputable def isFloor (fl : Nat) (T : List Df) (x y : Nat) : Bool :=
  match findD y T with
  | some d => Nat.beq d.op 20 && (Nat.beq d.imm (fl * 64) && beqL d.args [x])
  | none => false

noncomputable def bdOf (fl : Nat) (T : List Df) (B : BEnv) (d : Df) : Bd :=
  match d.op, d.imm, d.args with
  | 0, 1, [x, y] => { up := both addB (findB x B).up (findB y B).up, lo := if ((findB x B).one && (findB y B).nn) || ((findB y B).one && (findB x B).nn) then some (1, 0) else none }
  | 1, 1, [x, y] => if isFloor fl T x y then { up := some (1, 0) } else { up := both addB (findB x B).up (findB y B).up }
  | 2, 1, [x, y] => { up := both mulB (findB x B).up (findB y B).up }
  | 3, 1, [x, y] => { up := both divB (findB x B).up (findB y B).lo }
  | 5, b, [] => constB b
  | 15, 0, [x] => { up := (findB x B).up }
  | 20, s, [x] => if Nat.beq s 256 then { nn := true } else {}
  | _, _, _ => {}

noncomputable def hasB (n : Nat) : BEnv → Bool
  | [] => false
  | (m, _) :: r => Nat.beq m n || hasB n r

/-- What is told at the start stays. -/
noncomputable def bnds (fl : Nat) (T : List Df) : List Df → BEnv → BEnv
  | [], B => B
  | d :: r, B => bnds fl T r (match hasB d.id B with | true => B | false => (d.id, bdOf fl T B d) :: B)

section
variable {Φ : Syms} {ρ : Nat → NV} {fl : Nat} {T : List Df}

theorem fop_some {op : BinOp} {k : FloatKind} {x y : Option Nat} {c : Nat} (h : fop op k x y = some c) : ∃ a b, x = some a ∧ y = some b ∧ floatBits op k a b = some c := by
  cases x <;> cases y <;> first | exact ⟨_, _, rfl, rfl, h⟩ | cases h

theorem opp_le {M : Nat} {P : Int} {b : Nat} (h : AbsLe M P (Ieee.double.read b)) : AbsLe M P (Ieee.double.read (Op.negFloat .f64 b)) := by
  have hm : Op.negFloat .f64 b % 2 ^ 63 = b % 2 ^ 63 := neg_mod .f64 b
  have hsw : Ieee.double.signWeight = 2 ^ 63 := rfl
  unfold Ieee.Format.read at h ⊢
  dsimp only at h ⊢
  rw [hsw] at h ⊢
  rw [hm]
  split at h
  · rename_i h1; rw [if_pos h1]; exact h
  · rename_i h1
    rw [if_neg h1]
    split at h
    · rename_i h2; rw [if_pos h2]; exact h
    · split at h <;> exact h.elim

theorem bdOf_ok (hT : ∀ d ∈ T, ρ d.id = d.sem Φ ρ) (hfl : ∀ l, Φ (fl * 64) l = .f ((in0 l).gf.map (integralF .down))) (hsq : ∀ l, Φ 256 l = .f (fsqrt (in0 l).gf)) {B : BEnv} (hB : EnvOK ρ B) {d : Df} (hd : ρ d.id = d.sem Φ ρ) : SatB (bdOf fl T B d) (ρ d.id) := by
  obtain ⟨op, imm, args⟩ := d
  unfold bdOf
  split
  · rename_i x y e1 e2 e3
    dsimp only at e1 e2 e3
    subst e1 e2 e3
    rw [hd]
    intro c hc
    obtain ⟨a, b, ha, hb, hr⟩ := fop_some (show fop .add .f64 (ρ x).gf (ρ y).gf = some c from hc)
    have hr : Ieee.double.add a b = some c := hr
    obtain ⟨x1, x2, x3, x4⟩ := findB_ok (n := x) hB a ha
    obtain ⟨y1, y2, y3, y4⟩ := findB_ok (n := y) hB b hb
    refine ⟨fun M P h => ?_, fun M P h => ?_, fun h => (by cases h), fun h => (by cases h)⟩
    · obtain ⟨p, q, hp, hq, hf⟩ := both_ok h
      unfold addB at hf
      dsimp only at hf
      split at hf
      · rename_i hc2
        simp only [Bool.and_eq_true] at hc2
        simp only [Option.some.injEq] at hf
        rw [hf] at hc2
        exact add_abs (x1 p.1 p.2 hp) (y1 q.1 q.2 hq) hr (levB_ok hc2.1) hc2.2
      · cases hf
    · dsimp only at h
      split at h
      · rename_i hc2
        simp only [Bool.or_eq_true, Bool.and_eq_true] at hc2
        cases h
        rcases hc2 with hc2 | hc2
        · have := x4 hc2.1
          subst this
          exact one_add (y3 hc2.2) hr
        · have := y4 hc2.1
          subst this
          have hr' : Ieee.double.add oneF64 a = some c := (bits_comm .f64 oneF64 a (Or.inl rfl)).trans hr
          exact one_add (x3 hc2.2) hr'
      · cases h
  · rename_i x y e1 e2 e3
    dsimp only at e1 e2 e3
    subst e1 e2 e3
    rw [hd]
    split
    · rename_i hfloor
      refine SatB.upOnly fun c hc => ?_
      obtain ⟨a, b, ha, hb, hr⟩ := fop_some (show fop .sub .f64 (ρ x).gf (ρ y).gf = some c from hc)
      have hr : Ieee.double.sub a b = some c := hr
      unfold isFloor at hfloor
      split at hfloor
      · rename_i d' hd'
        obtain ⟨hmem, hid⟩ := findD_ok hd'
        obtain ⟨op', imm', args'⟩ := d'
        simp only [Bool.and_eq_true] at hfloor
        have i1 := Nat.eq_of_beq_eq_true hfloor.1
        have i2 := Nat.eq_of_beq_eq_true hfloor.2.1
        have i3 := beqL_eq hfloor.2.2
        have hs := hT _ hmem
        rw [hid] at hs
        subst i1 i2 i3
        have hs : ρ y = Φ (fl * 64) [ρ x] := hs
        rw [hs, hfl] at hb
        have hb : (ρ x).gf.map (integralF .down) = some b := hb
        rw [ha] at hb
        obtain rfl := Option.some.inj hb
        exact floor_near hr
      · cases hfloor
    · intro c hc
      obtain ⟨a, b, ha, hb, hr⟩ := fop_some (show fop .sub .f64 (ρ x).gf (ρ y).gf = some c from hc)
      have hr : Ieee.double.sub a b = some c := hr
      obtain ⟨x1, x2, x3, x4⟩ := findB_ok (n := x) hB a ha
      obtain ⟨y1, y2, y3, y4⟩ := findB_ok (n := y) hB b hb
      refine ⟨fun M P h => ?_, fun M P h => (by cases h), fun h => (by cases h), fun h => (by cases h)⟩
      obtain ⟨p, q, hp, hq, hf⟩ := both_ok h
      unfold addB at hf
      dsimp only at hf
      split at hf
      · rename_i hc2
        simp only [Bool.and_eq_true] at hc2
        simp only [Option.some.injEq] at hf
        rw [hf] at hc2
        exact sub_abs (x1 p.1 p.2 hp) (y1 q.1 q.2 hq) hr (levB_ok hc2.1) hc2.2
      · cases hf
  · rename_i x y e1 e2 e3
    dsimp only at e1 e2 e3
    subst e1 e2 e3
    rw [hd]
    intro c hc
    obtain ⟨a, b, ha, hb, hr⟩ := fop_some (show fop .mul .f64 (ρ x).gf (ρ y).gf = some c from hc)
    have hr : Ieee.double.mul a b = some c := hr
    obtain ⟨x1, x2, x3, x4⟩ := findB_ok (n := x) hB a ha
    obtain ⟨y1, y2, y3, y4⟩ := findB_ok (n := y) hB b hb
    refine ⟨fun M P h => ?_, fun M P h => (by cases h), fun h => (by cases h), fun h => (by cases h)⟩
    obtain ⟨p, q, hp, hq, hf⟩ := both_ok h
    unfold mulB at hf
    dsimp only at hf
    split at hf
    · rename_i hc2
      simp only [Bool.and_eq_true] at hc2
      simp only [Option.some.injEq] at hf
      rw [hf] at hc2
      exact mul_abs (x1 p.1 p.2 hp) (y1 q.1 q.2 hq) hr (levB_ok hc2.1) hc2.2
    · cases hf
  · rename_i x y e1 e2 e3
    dsimp only at e1 e2 e3
    subst e1 e2 e3
    rw [hd]
    intro c hc
    obtain ⟨a, b, ha, hb, hr⟩ := fop_some (show fop .quo .f64 (ρ x).gf (ρ y).gf = some c from hc)
    have hr : Ieee.double.div a b = some c := hr
    obtain ⟨x1, x2, x3, x4⟩ := findB_ok (n := x) hB a ha
    obtain ⟨y1, y2, y3, y4⟩ := findB_ok (n := y) hB b hb
    refine ⟨fun M P h => ?_, fun M P h => (by cases h), fun h => (by cases h), fun h => (by cases h)⟩
    obtain ⟨p, q, hp, hq, hf⟩ := both_ok h
    unfold divB at hf
    dsimp only at hf
    split at hf
    · rename_i hc2
      simp only [Bool.and_eq_true] at hc2
      simp only [Option.some.injEq] at hf
      rw [hf] at hc2
      exact div_abs (x1 p.1 p.2 hp) (y2 q.1 q.2 hq) hr (levB_ok hc2.1) hc2.2
    · cases hf
  · rename_i e1 e3
    dsimp only at e1 e3
    subst e1 e3
    rw [hd]
    intro c hc
    obtain ⟨rfl, _⟩ := can_some (show can .f64 imm = some c from hc)
    unfold constB
    split
    · rename_i s m p hread
      rw [hread]
      refine ⟨fun M P h => (by cases h; exact LeV.refl _ _), fun M P h => ?_, fun h => ?_, fun h => Nat.eq_of_beq_eq_true h⟩
      · dsimp only at h
        split at h
        · cases h
        · rename_i hm
          cases h
          exact ⟨fun e => hm (by rw [e]; rfl), LeV.refl _ _⟩
      · intro hs
        subst hs
        simpa using h
    · exact ⟨fun M P h => (by cases h), fun M P h => (by cases h), fun h => (by cases h), fun h => (by cases h)⟩
  · rename_i x e1 e2 e3
    dsimp only at e1 e2 e3
    subst e1 e2 e3
    rw [hd]
    intro c hc
    have hc : (ρ x).gf.map (Op.negFloat .f64) = some c := hc
    obtain ⟨a, ha, rfl⟩ := Option.map_eq_some_iff.1 hc
    obtain ⟨x1, x2, x3, x4⟩ := findB_ok (n := x) hB a ha
    exact ⟨fun M P h => opp_le (x1 M P h), fun M P h => (by cases h), fun h => (by cases h), fun h => (by cases h)⟩
  · rename_i x e1 e3
    dsimp only at e1 e3
    subst e1 e3
    split
    · rename_i hs
      obtain rfl : imm = 256 := Nat.eq_of_beq_eq_true hs
      rw [hd]
      intro c hc
      have hc : (Φ 256 [ρ x]).gf = some c := hc
      rw [hsq] at hc
      have hc : fsqrt (ρ x).gf = some c := hc
      refine ⟨fun M P h => (by cases h), fun M P h => (by cases h), fun _ => ?_, fun h => (by cases h)⟩
      unfold fsqrt at hc
      obtain ⟨a, ha, hc⟩ := Option.bind_eq_some_iff.1 hc
      exact sqrt_nonneg hc
    · exact SatB.none _
  · exact SatB.none _

theorem bnds_ok (hT : ∀ d ∈ T, ρ d.id = d.sem Φ ρ) (hfl : ∀ l, Φ (fl * 64) l = .f ((in0 l).gf.map (integralF .down))) (hsq : ∀ l, Φ 256 l = .f (fsqrt (in0 l).gf)) : ∀ (l : List Df) (B : BEnv), (∀ d ∈ l, d ∈ T) → EnvOK ρ B → EnvOK ρ (bnds fl T l B)
  | [], B, _, hB => hB
  | d :: r, B, hl, hB => bnds_ok hT hfl hsq r _ (fun d' hd' => hl d' (List.mem_cons_of_mem _ hd')) (by
    cases hasB d.id B with
    | true => exact hB
    | false =>
      intro e he
      rcases List.mem_cons.1 he with rfl | he
      · exact bdOf_ok hT hfl hsq hB (hT d (hl d List.mem_cons_self))
      · exact hB e he)

noncomputable def fitsB (B : BEnv) (n : Nat) : Bool :=
  match (findB n B).up with
  | some (M, P) => decide (P + M.log2 ≤ 100)
  | none => false

theorem fitsB_ok {B : BEnv} (hB : EnvOK ρ B) {n : Nat} (h : fitsB B n = true) : Asked 0 (ρ n) := by
  intro c hc
  unfold fitsB at h
  split at h
  · rename_i M P hup
    exact fits_abs ((findB_ok (n := n) hB c hc).1 M P hup) (of_decide_eq_true h)
  · cases h

end
end Go.Proofs.Ytcopccniijkceaa
