/- A symbolic walk: integers that are nodes. No condition. -/
import Derived.Test.YtcopccniijkceaaY2
import Derived.Test.YtcopccniijkceaaY2s
namespace Go.Proofs.Ytcopccniijkceaa
open Go Go.RowKit
set_option linter.unusedVariables false
set_option linter.unusedSimpArgs false

noncomputable def isInt : SS → Option IntKind
  | .int k _ => some k
  | .lit (.int k _) => some k
  | _ => none

noncomputable def asI (k : IntKind) : SS → Option (List Df × Nat)
  | .int k' n => if sameKind k' k then some ([], n) else none
  | .lit (.int k' (.ofNat c)) => if sameKind k' k then some ([⟨16, c, []⟩], Df.id ⟨16, c, []⟩) else none
  | .lit (.int k' (.negSucc c)) => if sameKind k' k then some ([⟨17, c + 1, []⟩], Df.id ⟨17, c + 1, []⟩) else none
  | _ => none

/-- Whether the first one is less. -/
noncomputable def ltI (k : IntKind) (x y : SS) : Option (List Df × Nat) :=
  match x, y with
  | .int k1 n, .lit (.int k2 (.ofNat c)) => if sameKind k1 k && sameKind k2 k then some ([⟨26, c, [n]⟩], Df.id ⟨26, c, [n]⟩) else none
  | .lit (.int k1 (.ofNat c)), .int k2 n => if sameKind k1 k && sameKind k2 k then some ([⟨27, c, [n]⟩], Df.id ⟨27, c, [n]⟩) else none
  | x, y => match asI k x, asI k y with
    | some (d1, i), some (d2, j) => some (d1 ++ (d2 ++ [⟨28, 0, [i, j]⟩]), Df.id ⟨28, 0, [i, j]⟩)
    | _, _ => none

noncomputable def icode : BinOp → Option Nat
  | .add => some 30
  | .sub => some 31
  | .mul => some 32
  | _ => none

noncomputable def ordI (c i j : Nat) : List Nat := match c with
  | 31 => [i, j]
  | _ => if Nat.ble i j then [i, j] else [j, i]

noncomputable def isLit : SS → Bool
  | .lit (.int _ (.ofNat (_ + 1))) => true
  | .lit (.int _ (.negSucc _)) => true
  | _ => false

/-- What is made, what is asked, the value. -/
noncomputable def binI (op : BinOp) (x y : SS) : Option (List Df × List (Nat × Nat) × SS) :=
  match isInt x with
  | none => none
  | some k => match op with
    | .lss => (ltI k x y).map fun r => (r.1, [], .bool r.2 false)
    | .geq => (ltI k x y).map fun r => (r.1, [], .bool r.2 true)
    | .gtr => (ltI k y x).map fun r => (r.1, [], .bool r.2 false)
    | .leq => (ltI k y x).map fun r => (r.1, [], .bool r.2 true)
    | _ => match asI k x, asI k y with
      | some (d1, i), some (d2, j) => match op with
        | .eql => some (d1 ++ (d2 ++ [⟨21, 0, [i, j]⟩]), [], .bool (Df.id ⟨21, 0, [i, j]⟩) false)
        | .neq => some (d1 ++ (d2 ++ [⟨21, 0, [i, j]⟩]), [], .bool (Df.id ⟨21, 0, [i, j]⟩) true)
        | .quo => some (d1 ++ (d2 ++ [⟨33, ikn k, [i, j]⟩]), if isLit y then [] else [(4, j)], .int k (Df.id ⟨33, ikn k, [i, j]⟩))
        | .rem => some (d1 ++ (d2 ++ [⟨29, 0, [i, j]⟩]), if isLit y then [] else [(4, j)], .int k (Df.id ⟨29, 0, [i, j]⟩))
        | op => match icode op with
          | some c => some (d1 ++ (d2 ++ [⟨c, ikn k, ordI c i j⟩]), [], .int k (Df.id ⟨c, ikn k, ordI c i j⟩))
          | none => none
      | _, _ => none

/-- The less or the greater one of two integers: what is made, the node that decides, the value if it is so, the value otherwise. -/
noncomputable def mmI (mn : Bool) (x y : SS) : Option (List Df × Nat × SS × SS) :=
  match isInt x with
  | none => none
  | some k => match mn with
    | true => (ltI k y x).map fun r => (r.1, r.2, y, x)
    | false => (ltI k x y).map fun r => (r.1, r.2, y, x)

section
variable {Φ : Syms} {ρ : Nat → NV} {β : List Nat} {P : Program} {w : World}

theorem ne_tt (b : Bool) : (b != true) = !b := by cases b <;> rfl

theorem asI_ok {k : IntKind} {s : SS} {ds : List Df} {n : Nat} {x : Value} (h : asI k s = some (ds, n)) (hd : ∀ d ∈ ds, ρ d.id = d.sem Φ ρ) (hx : SSm ρ β s x) : x = .int k (ρ n).gi := by
  unfold asI at h
  split at h
  · split at h
    · rename_i hk; cases h; obtain rfl := sameKind_eq hk; exact hx
    · cases h
  · split at h
    · rename_i hk; cases h; obtain rfl := sameKind_eq hk
      rw [hd _ (List.mem_singleton.2 rfl)]
      exact hx
    · cases h
  · split at h
    · rename_i c hk; cases h; obtain rfl := sameKind_eq hk
      rw [hd _ (List.mem_singleton.2 rfl)]
      have hx : x = .int _ (Int.negSucc c) := hx
      rw [hx]
      rfl
    · cases h
  · cases h

theorem ltI_ok {k : IntKind} {x y : SS} {ds : List Df} {n : Nat} {vx vy : Value} (h : ltI k x y = some (ds, n)) (hd : ∀ d ∈ ds, ρ d.id = d.sem Φ ρ) (hx : SSm ρ β x vx) (hy : SSm ρ β y vy) :
    ∃ a b, vx = .int k a ∧ vy = .int k b ∧ (ρ n).gb = decide (a < b) := by
  unfold ltI at h
  split at h
  · split at h
    · rename_i hk
      simp only [Bool.and_eq_true] at hk
      cases h
      obtain rfl := sameKind_eq hk.1
      obtain rfl := sameKind_eq hk.2
      refine ⟨_, _, hx, hy, ?_⟩
      rw [hd _ (List.mem_singleton.2 rfl)]
      rfl
    · cases h
  · split at h
    · rename_i hk
      simp only [Bool.and_eq_true] at hk
      cases h
      obtain rfl := sameKind_eq hk.1
      obtain rfl := sameKind_eq hk.2
      refine ⟨_, _, hx, hy, ?_⟩
      rw [hd _ (List.mem_singleton.2 rfl)]
      rfl
    · cases h
  · split at h
    · rename_i d1 i d2 j e1 e2
      cases h
      refine ⟨_, _, asI_ok e1 (fun d hd' => hd d (by simp [hd'])) hx, asI_ok e2 (fun d hd' => hd d (by simp [hd'])) hy, ?_⟩
      rw [hd ⟨28, 0, [i, j]⟩ (by simp)]
      rfl
    · cases h

theorem sem_ordI (c im i j : Nat) (hc : c = 30 ∨ c = 31 ∨ c = 32) : Df.sem Φ ρ ⟨c, im, ordI c i j⟩ = Df.sem Φ ρ ⟨c, im, [i, j]⟩ := by
  rcases hc with rfl | rfl | rfl
  · show Df.sem Φ ρ ⟨30, im, if Nat.ble i j then [i, j] else [j, i]⟩ = _
    split
    · rfl
    · show NV.i ((ik im).wrap ((ρ j).gi + (ρ i).gi)) = NV.i ((ik im).wrap ((ρ i).gi + (ρ j).gi))
      rw [Int.add_comm]
  · rfl
  · show Df.sem Φ ρ ⟨32, im, if Nat.ble i j then [i, j] else [j, i]⟩ = _
    split
    · rfl
    · show NV.i ((ik im).wrap ((ρ j).gi * (ρ i).gi)) = NV.i ((ik im).wrap ((ρ i).gi * (ρ j).gi))
      rw [Int.mul_comm]

theorem isLit_ne {y : SS} {vy : Value} {k : IntKind} {b : Int} (h : isLit y = true) (hy : SSm ρ β y vy) (e : vy = .int k b) : b ≠ 0 := by
  unfold isLit at h
  split at h
  · rename_i k' c
    have hy : vy = .int k' (Int.ofNat (c + 1)) := hy
    rw [e] at hy
    injection hy with _ hb
    rw [hb]
    exact Int.natCast_ne_zero.2 (Nat.succ_ne_zero c)
  · rename_i k' c
    have hy : vy = .int k' (Int.negSucc c) := hy
    rw [e] at hy
    injection hy with _ hb
    rw [hb]
    exact fun e => Int.noConfusion e
  · cases h

theorem binI_ok {op : BinOp} {x y : SS} {ds : List Df} {rq : List (Nat × Nat)} {s : SS} {vx vy : Value} {t : TypeId} (h : binI op x y = some (ds, rq, s)) (hd : ∀ d ∈ ds, ρ d.id = d.sem Φ ρ) (hq : ∀ q ∈ rq, Asked q.1 (ρ q.2))
    (hx : SSm ρ β x vx) (hy : SSm ρ β y vy) :
    (∃ v n, (binOp op t vx vy).run P w = .ok v (w.drewN n) ∧ SSm ρ β s v) ∧ ∀ X Y, eqGuard op t X Y vx vy = pure () := by
  unfold binI at h
  split at h
  · cases h
  rename_i k hk
  split at h
  · simp only [Option.map_eq_some_iff] at h
    obtain ⟨⟨d, n⟩, hr, h⟩ := h
    cases h
    obtain ⟨a, b, rfl, rfl, hn⟩ := ltI_ok hr hd hx hy
    refine ⟨⟨.bool (decide (a < b)), 0, by simp [binOp, Op.intCmp, World.drewN], ?_⟩, fun _ _ => rfl⟩
    show Value.bool _ = Value.bool ((ρ n).gb != false)
    rw [hn]; simp
  · simp only [Option.map_eq_some_iff] at h
    obtain ⟨⟨d, n⟩, hr, h⟩ := h
    cases h
    obtain ⟨a, b, rfl, rfl, hn⟩ := ltI_ok hr hd hx hy
    refine ⟨⟨.bool (decide (a ≥ b)), 0, by simp [binOp, Op.intCmp, World.drewN], ?_⟩, fun _ _ => rfl⟩
    show Value.bool _ = Value.bool ((ρ n).gb != true)
    rw [hn]; simp only [ne_tt, ← decide_not]; congr 1; exact decide_eq_decide.2 (by omega)
  · simp only [Option.map_eq_some_iff] at h
    obtain ⟨⟨d, n⟩, hr, h⟩ := h
    cases h
    obtain ⟨a, b, rfl, rfl, hn⟩ := ltI_ok hr hd hy hx
    refine ⟨⟨.bool (decide (b > a)), 0, by simp [binOp, Op.intCmp, World.drewN], ?_⟩, fun _ _ => rfl⟩
    show Value.bool _ = Value.bool ((ρ n).gb != false)
    rw [hn]; simp
  · simp only [Option.map_eq_some_iff] at h
    obtain ⟨⟨d, n⟩, hr, h⟩ := h
    cases h
    obtain ⟨a, b, rfl, rfl, hn⟩ := ltI_ok hr hd hy hx
    refine ⟨⟨.bool (decide (b ≤ a)), 0, by simp [binOp, Op.intCmp, World.drewN], ?_⟩, fun _ _ => rfl⟩
    show Value.bool _ = Value.bool ((ρ n).gb != true)
    rw [hn]; simp only [ne_tt, ← decide_not]; congr 1; exact decide_eq_decide.2 (by omega)
  · split at h
    case h_2 => cases h
    rename_i d1 i d2 j e1 e2
    have eqs : ∀ (hds : ∃ d3, ds = d1 ++ (d2 ++ d3)), vx = .int k (ρ i).gi ∧ vy = .int k (ρ j).gi := by
      rintro ⟨d3, rfl⟩
      exact ⟨asI_ok e1 (fun d hd' => hd d (by simp [hd'])) hx, asI_ok e2 (fun d hd' => hd d (by simp [hd'])) hy⟩
    have nz : (if isLit y then [] else [(4, j)]) = rq → vy = .int k (ρ j).gi → (ρ j).gi ≠ 0 := by
      intro e ey
      split at e
      · rename_i hl; exact isLit_ne hl hy ey
      · subst e; exact hq (4, j) (by simp)
    split at h
    · cases h
      obtain ⟨rfl, rfl⟩ := eqs ⟨_, rfl⟩
      refine ⟨⟨.bool ((ρ i).gi == (ρ j).gi), 0, by simp [binOp, Op.intCmp, World.drewN], ?_⟩, fun _ _ => rfl⟩
      show Value.bool _ = Value.bool ((ρ _).gb != false)
      rw [hd ⟨21, 0, [i, j]⟩ (by simp)]
      simp [Df.sem, NV.gb]
    · cases h
      obtain ⟨rfl, rfl⟩ := eqs ⟨_, rfl⟩
      refine ⟨⟨.bool ((ρ i).gi != (ρ j).gi), 0, by simp [binOp, Op.intCmp, World.drewN], ?_⟩, fun _ _ => rfl⟩
      show Value.bool _ = Value.bool ((ρ _).gb != true)
      rw [hd ⟨21, 0, [i, j]⟩ (by simp)]
      simp [Df.sem, NV.gb, bne]
    · cases h
      obtain ⟨rfl, ey⟩ := eqs ⟨_, rfl⟩
      have hz := nz rfl ey
      subst ey
      refine ⟨⟨.int k (k.wrap ((ρ i).gi.tdiv (ρ j).gi)), 0, by simp [binOp, Op.intDiv, hz, World.drewN], ?_⟩, fun _ _ => rfl⟩
      show Value.int _ _ = Value.int k (ρ _).gi
      rw [hd ⟨33, ikn k, [i, j]⟩ (by simp)]
      simp [Df.sem, NV.gi, ik_ikn]
    · cases h
      obtain ⟨rfl, ey⟩ := eqs ⟨_, rfl⟩
      have hz := nz rfl ey
      subst ey
      refine ⟨⟨.int k ((ρ i).gi.tmod (ρ j).gi), 0, by simp [binOp, Op.intDiv, hz, World.drewN], ?_⟩, fun _ _ => rfl⟩
      show Value.int _ _ = Value.int k (ρ _).gi
      rw [hd ⟨29, 0, [i, j]⟩ (by simp)]
      simp [Df.sem, NV.gi]
    · split at h
      case h_2 => cases h
      rename_i c hc
      cases h
      obtain ⟨rfl, rfl⟩ := eqs ⟨_, rfl⟩
      have hn := hd ⟨c, ikn k, ordI c i j⟩ (by simp)
      unfold icode at hc
      split at hc <;> first | (cases hc; done) | (cases hc)
      all_goals
        rw [sem_ordI _ _ _ _ (by simp)] at hn
        refine ⟨⟨_, 0, by simp [binOp, Op.intArith, World.drewN]; rfl, ?_⟩, fun _ _ => rfl⟩
        show Value.int _ _ = Value.int k (ρ _).gi
        rw [hn]
        simp [Df.sem, NV.gi, ik_ikn]

theorem mmI_ok {mn : Bool} {x y : SS} {ds : List Df} {n : Nat} {a e : SS} {vx vy : Value} (h : mmI mn x y = some (ds, n, a, e)) (hd : ∀ d ∈ ds, ρ d.id = d.sem Φ ρ) (hx : SSm ρ β x vx) (hy : SSm ρ β y vy) :
    ∃ k p q, vx = .int k p ∧ vy = .int k q ∧ SSm ρ β (match (ρ n).gb with | true => a | false => e) (.int k (match mn with | true => if q < p then q else p | false => if q > p then q else p)) := by
  unfold mmI at h
  split at h
  · cases h
  rename_i k hk
  split at h
  · simp only [Option.map_eq_some_iff] at h
    obtain ⟨⟨d, m⟩, hr, h⟩ := h
    cases h
    obtain ⟨q, p, rfl, rfl, hn⟩ := ltI_ok hr hd hy hx
    refine ⟨k, p, q, rfl, rfl, ?_⟩
    rw [hn]
    by_cases hlt : q < p
    · rw [decide_eq_true hlt]; simp only [if_pos hlt]; exact hy
    · rw [decide_eq_false hlt]; simp only [if_neg hlt]; exact hx
  · simp only [Option.map_eq_some_iff] at h
    obtain ⟨⟨d, m⟩, hr, h⟩ := h
    cases h
    obtain ⟨p, q, rfl, rfl, hn⟩ := ltI_ok hr hd hx hy
    refine ⟨k, p, q, rfl, rfl, ?_⟩
    rw [hn]
    by_cases hlt : p < q
    · rw [decide_eq_true hlt]; simp only [show q > p from hlt, if_true]; exact hy
    · rw [decide_eq_false hlt]; simp only [show ¬ q > p from hlt, if_false]; exact hx
end
end Go.Proofs.Ytcopccniijkceaa
