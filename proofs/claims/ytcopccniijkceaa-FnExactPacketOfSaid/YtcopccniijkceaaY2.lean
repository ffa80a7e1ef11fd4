/- A symbolic walk: operations that leave the world alone. No condition. -/
import Derived.Test.YtcopccniijkceaaY1
namespace Go.Proofs.Ytcopccniijkceaa
open Go Go.RowKit
set_option linter.unusedVariables false

structure TyI where
  desc : TypeDesc
  size : Nat
  zero : Value

abbrev Tab := TypeId → Option TyI
noncomputable def TabOK (P : Program) (TB : Tab) : Prop := ∀ t ti, TB t = some ti → P.underlying t = some ti.desc ∧ (P.info? t).map (·.size) = some ti.size ∧ (P.info? t).bind (·.zero) = some ti.zero

noncomputable def isRowB : TypeDesc → Bool
  | .struct _ | .array _ _ => true
  | _ => false

noncomputable def below (k : FloatKind) (b : Nat) : Bool := match k with | .f32 => Nat.blt b 4294967296 | .f64 => Nat.blt b 18446744073709551616
theorem below_lt {k : FloatKind} {b : Nat} (h : below k b = true) : b < 2 ^ k.format.width := by
  cases k
  · have h' : b < 4294967296 := by simpa [below] using h
    exact h'
  · have h' : b < 18446744073709551616 := by simpa [below] using h
    exact h'

noncomputable def asF (k : FloatKind) : SS → Option (List Df × Nat)
  | .flt k' n => if Nat.beq (kn k') (kn k) then some ([], n) else none
  | .lit (.float k' b) => if Nat.beq (kn k') (kn k) && below k b then some ([⟨4 + kn k, b, []⟩], Df.id ⟨4 + kn k, b, []⟩) else none
  | _ => none

theorem kn_inj {k k' : FloatKind} (h : kn k' = kn k) : k' = k := by cases k <;> cases k' <;> first | rfl | (simp [kn] at h)

section
variable {Φ : Syms} {ρ : Nat → NV} {β : List Nat}

theorem asF_ok {k : FloatKind} {s : SS} {ds : List Df} {n : Nat} {x : Value} (h : asF k s = some (ds, n)) (hd : ∀ d ∈ ds, ρ d.id = d.sem Φ ρ) (hx : SSm ρ β s x) :
    ∃ r, x = .float k r ∧ FIs k r (ρ n).gf := by
  cases s with
  | flt k' m =>
    simp only [asF] at h
    split at h
    · rename_i hk
      cases h
      obtain rfl := kn_inj (Nat.eq_of_beq_eq_true hk)
      exact hx
    · cases h
  | lit v =>
    cases v <;> simp only [asF] at h <;> first | cases h | skip
    rename_i k' b
    split at h
    · rename_i hk
      simp only [Bool.and_eq_true] at hk
      cases h
      obtain rfl := kn_inj (Nat.eq_of_beq_eq_true hk.1)
      have hl := below_lt hk.2
      have hs := hd _ (List.mem_singleton.2 rfl)
      refine ⟨b, hx, ?_⟩
      rw [hs]
      cases k' <;> exact FIs.self hl
    · cases h
  | int k' m => cases h
  | bool m g => cases h
  | ptr m g => cases h
  | slc m g u v => cases h
  | unk => cases h

noncomputable def fkind : SS → Option FloatKind
  | .flt k _ => some k
  | .lit (.float k _) => some k
  | _ => none

noncomputable def fcode : BinOp → Option (Nat × Bool)
  | .add => some (0, true)
  | .sub => some (1, true)
  | .mul => some (2, true)
  | .quo => some (3, true)
  | .eql => some (8, false)
  | .neq => some (8, false)
  | .lss => some (9, false)
  | .leq => some (10, false)
  | .gtr => some (11, false)
  | .geq => some (12, false)
  | _ => none

noncomputable def isNeq : BinOp → Bool | .neq => true | _ => false

/-- Sums and products do not depend on the order of the two. -/
noncomputable def ordA (c i j : Nat) : List Nat := match c with
  | 0 => if Nat.ble i j then [i, j] else [j, i]
  | 2 => if Nat.ble i j then [i, j] else [j, i]
  | _ => [i, j]

theorem sum_comm (x y : Ieee.Datum) : x.sum y = y.sum x := by
  cases x <;> cases y <;> simp only [Ieee.Datum.sum]
  · rename_i s m i t n j
    rw [Int.min_comm j i, Int.add_comm (Ieee.signed t n _)]
    congr 2
    split
    · exact Bool.and_comm _ _
    · rfl
  · rename_i s t
    by_cases h : s = t
    · subst h; rfl
    · rw [if_neg h, if_neg (fun e => h e.symm)]

theorem product_comm (x y : Ieee.Datum) : x.product y = y.product x := by
  cases x <;> cases y <;> simp only [Ieee.Datum.product]
  · rename_i s m i t n j
    rw [Nat.mul_comm, Int.add_comm, Bool.xor_comm]
  · rename_i s t; rw [Bool.xor_comm]

theorem bits_comm {op : BinOp} (k : FloatKind) (a b : Nat) (h : op = .add ∨ op = .mul) : floatBits op k a b = floatBits op k b a := by
  rcases h with rfl | rfl
  · show ((k.format.read a).sum (k.format.read b)).map k.format.write = ((k.format.read b).sum (k.format.read a)).map k.format.write
    rw [sum_comm]
  · show ((k.format.read a).product (k.format.read b)).map k.format.write = ((k.format.read b).product (k.format.read a)).map k.format.write
    rw [product_comm]

theorem fop_comm {op : BinOp} (k : FloatKind) (a b : Option Nat) (h : op = .add ∨ op = .mul) : fop op k a b = fop op k b a := by
  cases a <;> cases b <;> first | rfl | exact bits_comm k _ _ h

theorem sem_ord (c im i j : Nat) : Df.sem Φ ρ ⟨c, im, ordA c i j⟩ = Df.sem Φ ρ ⟨c, im, [i, j]⟩ := by
  unfold ordA
  split
  · split
    · rfl
    · show NV.f (fop .add (kf im) (ρ j).gf (ρ i).gf) = NV.f (fop .add (kf im) (ρ i).gf (ρ j).gf)
      rw [fop_comm _ _ _ (Or.inl rfl)]
  · split
    · rfl
    · show NV.f (fop .mul (kf im) (ρ j).gf (ρ i).gf) = NV.f (fop .mul (kf im) (ρ i).gf (ρ j).gf)
      rw [fop_comm _ _ _ (Or.inr rfl)]
  · rfl

noncomputable def fbin (op : BinOp) (k : FloatKind) (x y : SS) : Option (List Df × SS) :=
  match asF k x, asF k y, fcode op with
  | some (d1, i), some (d2, j), some (c, true) => some (d1 ++ (d2 ++ [⟨c, kn k, ordA c i j⟩]), .flt k (Df.id ⟨c, kn k, ordA c i j⟩))
  | some (d1, i), some (d2, j), some (c, false) => some (d1 ++ (d2 ++ [⟨c, kn k, ordA c i j⟩]), .bool (Df.id ⟨c, kn k, ordA c i j⟩) (isNeq op))
  | _, _, _ => none

theorem fbin_ok {P : Program} {op : BinOp} {k : FloatKind} {x y : SS} {ds : List Df} {s : SS} {vx vy : Value} {t : TypeId} {w : World} (h : fbin op k x y = some (ds, s)) (hd : ∀ d ∈ ds, ρ d.id = d.sem Φ ρ)
    (hx : SSm ρ β x vx) (hy : SSm ρ β y vy) :
    (∃ v n, (binOp op t vx vy).run P w = .ok v (w.drewN n) ∧ SSm ρ β s v) ∧ ∀ X Y, eqGuard op t X Y vx vy = pure () := by
  unfold fbin at h
  cases ex : asF k x with
  | none => rw [ex] at h; cases h
  | some p =>
    obtain ⟨d1, i⟩ := p
    cases ey : asF k y with
    | none => rw [ex, ey] at h; cases h
    | some q =>
      obtain ⟨d2, j⟩ := q
      rw [ex, ey] at h
      cases ec : fcode op with
      | none => rw [ec] at h; cases h
      | some cb =>
        obtain ⟨c, fl⟩ := cb
        rw [ec] at h
        have main : ∀ (hds : ds = d1 ++ (d2 ++ [⟨c, kn k, ordA c i j⟩])), (∃ r, vx = .float k r ∧ FIs k r (ρ i).gf) ∧ (∃ r, vy = .float k r ∧ FIs k r (ρ j).gf) ∧ ρ (Df.id ⟨c, kn k, ordA c i j⟩) = Df.sem Φ ρ ⟨c, kn k, ordA c i j⟩ := by
          intro hds
          subst hds
          exact ⟨asF_ok ex (fun d hd' => hd d (by simp [hd'])) hx, asF_ok ey (fun d hd' => hd d (by simp [hd'])) hy, hd _ (by simp)⟩
        cases fl with
        | true =>
          cases h
          obtain ⟨⟨a, rfl, ha⟩, ⟨b, rfl, hb⟩, hs⟩ := main rfl
          have har : arith op = true := by cases op <;> first | rfl | (simp [fcode] at ec)
          obtain ⟨r, n, hrun, hr⟩ := run_fop (P := P) w op t k a b har
          refine ⟨⟨_, n, hrun, ⟨r, rfl, ?_⟩⟩, fun X Y => by cases op <;> rfl⟩
          rw [hs, sem_ord]
          refine hr.of_eq ?_
          rw [ha.out, hb.out]
          cases op <;> simp [fcode] at ec <;> subst ec <;> simp [Df.sem, kf_kn, NV.gf]
        | false =>
          cases h
          obtain ⟨⟨a, rfl, ha⟩, ⟨b, rfl, hb⟩, hs⟩ := main rfl
          have ho : k.format.order a b = ford k (ρ i).gf (ρ j).gf := by rw [order_can, ha.out, hb.out]
          refine ⟨⟨.bool ((ρ (Df.id ⟨c, kn k, ordA c i j⟩)).gb != isNeq op), 0, ?_, rfl⟩, fun X Y => by cases op <;> rfl⟩
          rw [hs, sem_ord]
          cases op <;> simp [fcode] at ec <;> subst ec <;> simp [binOp, Op.floatCmp, Df.sem, kf_kn, NV.gb, ho, isNeq, World.drewN] <;> rfl

noncomputable def intBin (op : BinOp) (k : IntKind) (a b : Int) : Option Value :=
  match op with
  | .add => some (.int k (k.wrap (a + b)))
  | .sub => some (.int k (k.wrap (a - b)))
  | .mul => some (.int k (k.wrap (a * b)))
  | .quo => if b = 0 then none else some (.int k (k.wrap (a.tdiv b)))
  | .rem => if b = 0 then none else some (.int k (a.tmod b))
  | .eql => some (.bool (a == b))
  | .neq => some (.bool (a != b))
  | .lss => some (.bool (decide (a < b)))
  | .leq => some (.bool (decide (a ≤ b)))
  | .gtr => some (.bool (decide (a > b)))
  | .geq => some (.bool (decide (a ≥ b)))
  | _ => none

theorem intBin_ok {P : Program} {op : BinOp} {k : IntKind} {a b : Int} {v : Value} {t : TypeId} {w : World} (h : intBin op k a b = some v) :
    (binOp op t (.int k a) (.int k b)).run P w = .ok v w ∧ ∀ X Y, eqGuard op t X Y (.int k a) (.int k b) = pure () := by
  constructor
  · cases op <;> simp only [intBin] at h <;> first | cases h | skip
    all_goals first
      | (simp [binOp, Op.intArith, Op.intCmp]; done)
      | (split at h
         · cases h
         · rename_i hb; cases h; simp [binOp, Op.intDiv, hb])
  · intro X Y; cases op <;> rfl

noncomputable def sameKind (k k' : IntKind) : Bool := match k, k' with
  | .i8, .i8 | .i16, .i16 | .i32, .i32 | .i64, .i64 | .u8, .u8 | .u16, .u16 | .u32, .u32 | .u64, .u64 => true
  | _, _ => false
theorem sameKind_eq {k k' : IntKind} (h : sameKind k k' = true) : k = k' := by cases k <;> cases k' <;> first | rfl | (simp [sameKind] at h)

/-- An integer and a constant. -/
noncomputable def intC (op : BinOp) (n c : Nat) : Option (List Df × SS) :=
  match op with
  | .eql => some ([⟨13, c, [n]⟩], .bool (Df.id ⟨13, c, [n]⟩) false)
  | .neq => some ([⟨13, c, [n]⟩], .bool (Df.id ⟨13, c, [n]⟩) true)
  | .lss => some ([⟨26, c, [n]⟩], .bool (Df.id ⟨26, c, [n]⟩) false)
  | .geq => some ([⟨26, c, [n]⟩], .bool (Df.id ⟨26, c, [n]⟩) true)
  | .gtr => some ([⟨27, c, [n]⟩], .bool (Df.id ⟨27, c, [n]⟩) false)
  | .leq => some ([⟨27, c, [n]⟩], .bool (Df.id ⟨27, c, [n]⟩) true)
  | _ => none

theorem intC_ok {P : Program} {op : BinOp} {n c : Nat} {ds : List Df} {s : SS} {t : TypeId} {w : World} {k : IntKind} (h : intC op n c = some (ds, s)) (hd : ∀ d ∈ ds, ρ d.id = d.sem Φ ρ) :
    (∃ v, (binOp op t (.int k (ρ n).gi) (.int k (c : Int))).run P w = .ok v w ∧ SSm ρ β s v) ∧ ∀ X Y, eqGuard op t X Y (.int k (ρ n).gi) (.int k (c : Int)) = pure () := by
  unfold intC at h
  split at h <;> first | (cases h; done) | skip
  all_goals
    cases h
    have hs := hd _ (List.mem_singleton.2 rfl)
    refine ⟨⟨_, by simp [binOp, Op.intCmp]; rfl, ?_⟩, fun _ _ => rfl⟩
    show Value.bool _ = Value.bool ((ρ _).gb != _)
    rw [hs]
    simp [Df.sem, NV.gb, bne]
  all_goals (rw [← decide_not, decide_eq_decide]; omega)

noncomputable def binS (op : BinOp) (x y : SS) : Option (List Df × SS) :=
  match x, y with
  | .lit (.int k a), .lit (.int k' b) => if sameKind k k' then (intBin op k a b).map fun v => ([], .lit v) else none
  | .int k n, .lit (.int k' (.ofNat c)) =>
    if sameKind k k' then intC op n c else none
  | .int k n, .int k' m =>
    if sameKind k k' then
      match op with
      | .eql => if Nat.beq n m then some ([], .lit (.bool true)) else some ([⟨21, 0, [n, m]⟩], .bool (Df.id ⟨21, 0, [n, m]⟩) false)
      | .neq => if Nat.beq n m then some ([], .lit (.bool false)) else some ([⟨21, 0, [n, m]⟩], .bool (Df.id ⟨21, 0, [n, m]⟩) true)
      | _ => none
    else none
  | x, y => match fkind x with
    | some k => fbin op k x y
    | none => match fkind y with
      | some k => fbin op k x y
      | none => none

theorem binS_ok {P : Program} {op : BinOp} {x y : SS} {ds : List Df} {s : SS} {vx vy : Value} {t : TypeId} {w : World} (h : binS op x y = some (ds, s)) (hd : ∀ d ∈ ds, ρ d.id = d.sem Φ ρ)
    (hx : SSm ρ β x vx) (hy : SSm ρ β y vy) :
    (∃ v n, (binOp op t vx vy).run P w = .ok v (w.drewN n) ∧ SSm ρ β s v) ∧ ∀ X Y, eqGuard op t X Y vx vy = pure () := by
  unfold binS at h
  split at h
  · rename_i k a k' b
    split at h
    · rename_i hk
      obtain rfl := sameKind_eq hk
      cases hi : intBin op k a b with
      | none => rw [hi] at h; cases h
      | some v =>
        rw [hi] at h
        cases h
        obtain rfl : vx = _ := hx
        obtain rfl : vy = _ := hy
        obtain ⟨h1, h2⟩ := intBin_ok (P := P) (t := t) (w := w) hi
        exact ⟨⟨v, 0, h1, rfl⟩, h2⟩
    · cases h
  · rename_i k n k' c
    split at h
    · rename_i hk
      obtain rfl := sameKind_eq hk
      obtain rfl : vx = _ := hx
      obtain rfl : vy = _ := hy
      obtain ⟨⟨v, hv, hm⟩, hg⟩ := intC_ok (P := P) (t := t) (w := w) (k := k) h hd
      exact ⟨⟨v, 0, hv, hm⟩, hg⟩
    · cases h
  · rename_i k n k' m
    split at h
    · rename_i hk
      obtain rfl := sameKind_eq hk
      obtain rfl : vx = _ := hx
      obtain rfl : vy = _ := hy
      split at h
      · split at h
        · rename_i hm
          obtain rfl := Nat.eq_of_beq_eq_true hm
          cases h
          exact ⟨⟨.bool true, 0, by simp [binOp, Op.intCmp, World.drewN], rfl⟩, fun _ _ => rfl⟩
        · cases h
          have hs := hd _ (List.mem_singleton.2 rfl)
          refine ⟨⟨.bool ((ρ n).gi == (ρ m).gi), 0, by simp [binOp, Op.intCmp, World.drewN], ?_⟩, fun _ _ => rfl⟩
          show Value.bool _ = Value.bool ((ρ _).gb != false)
          rw [hs]
          simp [Df.sem, NV.gb]
      · split at h
        · rename_i hm
          obtain rfl := Nat.eq_of_beq_eq_true hm
          cases h
          exact ⟨⟨.bool false, 0, by simp [binOp, Op.intCmp, World.drewN], rfl⟩, fun _ _ => rfl⟩
        · cases h
          have hs := hd _ (List.mem_singleton.2 rfl)
          refine ⟨⟨.bool ((ρ n).gi != (ρ m).gi), 0, by simp [binOp, Op.intCmp, World.drewN], ?_⟩, fun _ _ => rfl⟩
          show Value.bool _ = Value.bool ((ρ _).gb != true)
          rw [hs]
          simp [Df.sem, NV.gb, bne]
      · cases h
    · cases h
  · split at h
    · exact fbin_ok h hd hx hy
    · split at h
      · exact fbin_ok h hd hx hy
      · cases h

/-! ### Parts of aggregates -/

noncomputable def partS (ti : TyI) (l : List SS) (off : Nat) : Option SV :=
  if isRowB ti.desc then (if Nat.ble (off + ti.size) l.length then some (.agg ((l.drop off).take ti.size)) else none)
  else (l[off]?).map .one

theorem run_part {P : Program} {w : World} {t : TypeId} {ti : TyI} (hu : P.underlying t = some ti.desc) (hi : (P.info? t).map (·.size) = some ti.size) {l : List SS} {cs : Array Value} {off : Nat} {r : SV}
    (h : partS ti l off = some r) (hl : all2 (SSm ρ β) l cs.toList) : ∃ v, (part t cs off).run P w = .ok v w ∧ SVm ρ β r v := by
  unfold partS at h
  cases hq : P.info? t with
  | none => simp [hq] at hi
  | some it =>
    have hs : it.size = ti.size := by simpa [hq] using hi
    split at h
    · rename_i hr
      split at h
      · cases h
        have hagg : (isAgg t).run P w = .ok true w := by
          unfold isAgg
          rw [Sem.run_bind, run_underlying hu w]
          cases hd : ti.desc <;> simp_all [isRowB]
        refine ⟨.agg (cs.extract off (off + ti.size)), ?_, _, rfl, ?_⟩
        · simp [part, Sem.run_bind, hagg, sizeOf, typeInfo, hq, hs]
        · have := (hl.drop off).take ti.size
          simpa [List.extract_eq_take_drop] using this
      · cases h
    · rename_i hr
      have hagg : (isAgg t).run P w = .ok false w := by
        unfold isAgg
        rw [Sem.run_bind, run_underlying hu w]
        cases hd : ti.desc <;> simp_all [isRowB]
      cases hx : l[off]? with
      | none => rw [hx] at h; cases h
      | some s =>
        rw [hx] at h
        cases h
        obtain ⟨v, hv, hm⟩ := hl.get? off hx
        have hv' : cs[off]? = some v := by simpa using hv
        refine ⟨v, ?_, hm⟩
        simp [part, Sem.run_bind, hagg, hv']

end
end Go.Proofs.Ytcopccniijkceaa
