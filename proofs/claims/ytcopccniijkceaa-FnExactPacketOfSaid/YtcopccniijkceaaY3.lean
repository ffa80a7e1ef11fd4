/- A symbolic walk: all operations that leave the memory alone. No condition. -/
import Derived.Test.YtcopccniijkceaaY2
import Derived.Test.YtcopccniijkceaaY2s
import Derived.Test.YtcopccniijkceaaYi
import Derived.Laws.StructEq
import Derived.ChangeKeysEq
import Derived.Test.YtcopccniijkceaaSp
namespace Go.Proofs.Ytcopccniijkceaa
open Go Go.RowKit
set_option linter.unusedVariables false
set_option linter.unusedSimpArgs false

/-- What an operation leaves: the nodes it makes, what it asks, the value. -/
abbrev PR := Option (List Df × List (Nat × Nat) × SV)

noncomputable def loadS (TB : Tab) (t : TypeId) (a : SV) (heap : List Blk) : Option SV :=
  match a, TB t with
  | .p (.one (.ptr b off)), some ti => match heap[b]? with
    | some blk => partS ti blk.cells off
    | none => none
  | _, _ => none

noncomputable def indexAddrS (TB : Tab) (t : TypeId) (a i : SV) : Option SV :=
  match a, i, TB t with
  | .p (.one (.ptr b off)), .p (.one (.lit (.int k (.ofNat j)))), some ti => match ti.desc with
    | .array len e => match TB e with
      | some te => if Nat.blt j len then some (.one (.ptr b (off + j * te.size))) else none
      | none => none
    | _ => none
  | _, _, _ => none

noncomputable def fieldAddrS (TB : Tab) (t : TypeId) (a : SV) (f : Nat) : Option SV :=
  match a, TB t with
  | .p (.one (.ptr b off)), some ti => match ti.desc with
    | .struct fs => match fs[f]? with
      | some fd => match TB fd.type with
        | some tf => if Nat.beq tf.size 0 then none else some (.one (.ptr b (off + fd.offset)))
        | none => none
      | none => none
    | _ => none
  | _, _ => none

noncomputable def indexS (TB : Tab) (t : TypeId) (a i : SV) : Option SV :=
  match a, i, TB t with
  | .p (.agg l), .p (.one (.lit (.int k (.ofNat j)))), some ti => match ti.desc with
    | .array len e => match TB e with
      | some te => if Nat.blt j len then partS te l (j * te.size) else none
      | none => none
    | _ => none
  | _, _, _ => none

noncomputable def fieldS (TB : Tab) (t : TypeId) (a : SV) (f : Nat) : Option SV :=
  match a, TB t with
  | .p (.agg l), some ti => match ti.desc with
    | .struct fs => match fs[f]? with
      | some fd => match TB fd.type with
        | some tf => partS tf l fd.offset
        | none => none
      | none => none
    | _ => none
  | _, _ => none

noncomputable def convS (TB : Tab) (src dst : TypeId) (x : SV) : PR :=
  match x, TB src, TB dst with
  | .p (.one s), some _, some td => match td.desc, s with
    | .int k, .lit (.int _ n) => some ([], [], .one (.lit (.int k (k.wrap n))))
    | .float k, .lit (.int _ n) => some ([], [], .one (.lit (.float k (k.nearest n))))
    | .float .f32, .flt .f32 n => some ([], [], .one (.flt .f32 n))
    | .float .f64, .flt .f64 n => some ([], [], .one (.flt .f64 n))
    | .float .f64, .flt .f32 n => some ([⟨6, 0, [n]⟩], [], .one (.flt .f64 (Df.id ⟨6, 0, [n]⟩)))
    | .float .f32, .flt .f64 n => some ([⟨7, 0, [n]⟩], [(0, n)], .one (.flt .f32 (Df.id ⟨7, 0, [n]⟩)))
    | .float .f64, .lit (.float .f32 b) => if below .f32 b then some ([⟨4, b, []⟩, ⟨6, 0, [Df.id ⟨4, b, []⟩]⟩], [], .one (.flt .f64 (Df.id ⟨6, 0, [Df.id ⟨4, b, []⟩]⟩))) else none
    | .float .f32, .lit (.float .f64 b) => if Nat.blt 9218868437227405312 (b % 9223372036854775808) then some ([⟨4, 2143289344, []⟩], [], .one (.flt .f32 (Df.id ⟨4, 2143289344, []⟩))) else none
    | .float .f32, .lit (.float .f32 b) => some ([], [], .one (.lit (.float .f32 b)))
    | .float .f64, .lit (.float .f64 b) => some ([], [], .one (.lit (.float .f64 b)))
    | .int k, .int _ n => some ([⟨34, ikn k, [n]⟩], [], .one (.int k (Df.id ⟨34, ikn k, [n]⟩)))
    | .float .f32, .int _ n => some ([⟨35, 0, [n]⟩], [], .one (.flt .f32 (Df.id ⟨35, 0, [n]⟩)))
    | .float .f64, .int _ n => some ([⟨36, 0, [n]⟩], [], .one (.flt .f64 (Df.id ⟨36, 0, [n]⟩)))
    | .int k, .flt fk n => some ([⟨37, kn fk, [n]⟩], [(16 + 8 * kn fk + ikn k, n)], .one (.int k (Df.id ⟨37, kn fk, [n]⟩)))
    | .int k, .lit (.float fk b) => match (fk.decode b).toInt .zero with
      | some n => if decide (k.min ≤ n) && decide (n ≤ k.max) then some ([], [], .one (.lit (.int k n))) else none
      | none => none
    | _, _ => none
  | _, _, _ => none

noncomputable def unS (op : UnOp) (x : SV) : PR :=
  match op, x with
  | .not, .p (.one (.bool n g)) => some ([], [], .one (.bool n !g))
  | .not, .p (.one (.lit (.bool b))) => some ([], [], .one (.lit (.bool !b)))
  | .neg, .p (.one (.flt k n)) => some ([⟨14 + kn k, 0, [n]⟩], [], .one (.flt k (Df.id ⟨14 + kn k, 0, [n]⟩)))
  | .neg, .p (.one (.lit (.float k b))) => some ([], [], .one (.lit (.float k (Op.negFloat k b))))
  | .neg, .p (.one (.lit (.int k n))) => some ([], [], .one (.lit (.int k (k.wrap (0 - n)))))
  | _, _ => none

/-- Truth values that are compared. -/
noncomputable def eqS : SS → SS → Option (List Df × SS)
  | .lit (.bool a), .lit (.bool b) => some ([], .lit (.bool (a == b)))
  | .bool n g, .lit (.bool b) => some ([], .bool n (g != !b))
  | .lit (.bool b), .bool n g => some ([], .bool n (g != !b))
  | .bool n g, .bool m h => if Nat.beq n m then some ([], .lit (.bool (g == h))) else some ([⟨23, 0, [n, m]⟩], .bool (Df.id ⟨23, 0, [n, m]⟩) (g != h))
  | _, _ => none

noncomputable def notS : SS → SS
  | .lit (.bool b) => .lit (.bool !b)
  | .bool n g => .bool n !g
  | s => s

noncomputable def isBoolD : TypeDesc → Bool
  | .bool => true
  | _ => false

noncomputable def boolS (TB : Tab) (op : BinOp) (t : TypeId) (a b : SS) : Option (List Df × SS) :=
  match TB t with
  | some ti => if isBoolD ti.desc then match op with
    | .eql => eqS a b
    | .neq => (eqS a b).map fun r => (r.1, notS r.2)
    | _ => none
    else none
  | none => none

/-- Two elements of arrays: the node that says whether they are equal; none: they are. -/
noncomputable def eqEl : SS → SS → Option (List Df × List Nat)
  | .int k n, .int k' m => if sameKind k k' then (if Nat.beq n m then some ([], []) else some ([⟨21, 0, [n, m]⟩], [Df.id ⟨21, 0, [n, m]⟩])) else none
  | .int k n, .lit (.int k' c) => match asI k (.lit (.int k' c)) with
    | some (d, m) => some (d ++ [⟨21, 0, [n, m]⟩], [Df.id ⟨21, 0, [n, m]⟩])
    | none => none
  | .lit (.int k' c), .int k n => match asI k (.lit (.int k' c)) with
    | some (d, m) => some (d ++ [⟨21, 0, [n, m]⟩], [Df.id ⟨21, 0, [n, m]⟩])
    | none => none
  | .lit (.int k a), .lit (.int k' b) => if sameKind k k' && decide (a = b) then some ([], []) else none
  | a, b => match fkind a with
    | some k => match asF k a, asF k b with
      | some (d1, i), some (d2, j) => some (d1 ++ (d2 ++ [⟨8, kn k, [i, j]⟩]), [Df.id ⟨8, kn k, [i, j]⟩])
      | _, _ => none
    | none => none

noncomputable def eqEls : List SS → List SS → Option (List Df × List Nat)
  | [], [] => some ([], [])
  | a :: l, b :: m => match eqEl a b, eqEls l m with
    | some (d, i), some (ds, is) => some (d ++ ds, i ++ is)
    | _, _ => none
  | _, _ => none

noncomputable def scalD : TypeDesc → Bool
  | .int _ => true
  | .float _ => true
  | _ => false

/-- An element fits its type: told by the node's kind. -/
noncomputable def fitsD : TypeDesc → SS → Bool
  | .int _, .int _ _ => true
  | .int _, .lit (.int _ _) => true
  | .float _, .flt _ _ => true
  | .float _, .lit (.float _ _) => true
  | _, _ => false

noncomputable def arrayD : TypeDesc → Option (Nat × TypeId)
  | .array n e => some (n, e)
  | _ => none

noncomputable def allOf (ids : List Nat) : List Df × SS := match ids with
  | [] => ([], .lit (.bool true))
  | ids => ([⟨22, 0, ids⟩], .bool (Df.id ⟨22, 0, ids⟩) false)

/-- Rows of k numbers, from the row o on. -/
noncomputable def eqRows (k : Nat) (l m : List SS) : Nat → Nat → Option (List Df × List Nat)
  | 0, _ => some ([], [])
  | n + 1, o => match eqEls ((l.drop (o * k)).take k) ((m.drop (o * k)).take k), eqRows k l m n (o + 1) with
    | some (d, i), some (ds, is) => some (d ++ ds, i ++ is)
    | _, _ => none

/-- Arrays of arrays of numbers. -/
noncomputable def rowsEq (TB : Tab) (op : BinOp) (n : Nat) (te : TyI) (l m : List SS) : Option (List Df × SS) :=
  match arrayD te.desc with
  | some (k, e) => match TB e with
    | some ts => if scalD ts.desc && (Nat.beq ts.size 1 && (Nat.beq te.size k && (Nat.beq l.length (n * k) && (Nat.beq m.length (n * k) && l.all (fitsD ts.desc))))) then match eqRows k l m n 0 with
      | some (ds, ids) => match op with
        | .eql => some (ds ++ (allOf ids).1, (allOf ids).2)
        | .neq => some (ds ++ (allOf ids).1, notS (allOf ids).2)
        | _ => none
      | none => none
      else none
    | none => none
  | none => none

/-- Arrays of numbers that are compared. -/
noncomputable def aggEq (TB : Tab) (op : BinOp) (t : TypeId) (l m : List SS) : Option (List Df × SS) :=
  match TB t with
  | some ti => match arrayD ti.desc with
    | some (n, e) => match TB e with
      | some te => match arrayD te.desc with
        | some _ => rowsEq TB op n te l m
        | none => if scalD te.desc && (Nat.beq te.size 1 && (Nat.beq l.length n && l.all (fitsD te.desc))) then match eqEls l m with
        | some (ds, ids) => match op with
          | .eql => some (ds ++ (allOf ids).1, (allOf ids).2)
          | .neq => some (ds ++ (allOf ids).1, notS (allOf ids).2)
          | _ => none
        | none => none
        else none
      | none => none
    | none => none
  | none => none

noncomputable def cellsV : SV → Option (List SS)
  | .p (.one (.lit (.agg _))) => none
  | .p (.one .unk) => none
  | .p (.one s) => some [s]
  | .p (.agg l) => some l
  | .tup _ => none
  | .clo .. => none

noncomputable def fillS (place : Nat → Option (Nat × Nat)) : List SS → List (Nat × SV) → Option (List SS)
  | z, [] => some z
  | z, (i, v) :: r => match cellsV v, place i with
    | some l, some (off, size) => if Nat.beq l.length size && Nat.ble (off + l.length) z.length then fillS place (z.take off ++ (l ++ z.drop (off + l.length))) r else none
    | _, _ => none

noncomputable def placesS (TB : Tab) : List Field → Option (List (Nat × Nat))
  | [] => some []
  | f :: r => match TB f.type, placesS TB r with
    | some tf, some l => some ((f.offset, tf.size) :: l)
    | _, _ => none

/-- Where the parts of a type lie. -/
noncomputable def placeS (TB : Tab) : TypeDesc → Option (Nat → Option (Nat × Nat))
  | .array _ e => match TB e with
    | some te => some fun i => some (i * te.size, te.size)
    | none => none
  | .struct fs => match placesS TB fs.toList with
    | some l => some fun i => l[i]?
    | none => none
  | _ => none

noncomputable def spsOf : List SV → Option (List SP)
  | [] => some []
  | .p x :: r => match spsOf r with
    | some l => some (x :: l)
    | none => none
  | _ :: _ => none

noncomputable def pureOp (TB : Tab) (o : Op) (ev : Operand → SV) (heap : List Blk) : PR :=
  match o with
  | .move x | .assign x => some ([], [], ev x)
  | .load t x => (loadS TB t (ev x) heap).map fun v => ([], [], v)
  | .indexAddr t x i => match indexAddrS TB t (ev x) (ev i) with
    | some v => some ([], [], v)
    | none => (indexSl TB t (ev x) (ev i)).map fun v => ([], [], v)
  | .fieldAddr t x f => (fieldAddrS TB t (ev x) f).map fun v => ([], [], v)
  | .index t x i => (indexS TB t (ev x) (ev i)).map fun v => ([], [], v)
  | .field t x f => (fieldS TB t (ev x) f).map fun v => ([], [], v)
  | .extract x i => match ev x with
    | .tup l => (l[i]?).map fun v => ([], [], .p v)
    | _ => none
  | .binOp op t x y _ => match ev x, ev y with
    | .p (.one a), .p (.one b) => match boolS TB op t a b with
      | some r => some (r.1, [], .one r.2)
      | none => match binS op a b with
        | some r => some (r.1, [], .one r.2)
        | none => (binI op a b).map fun r => (r.1, r.2.1, .one r.2.2)
    | .p (.agg l), .p (.agg m) => (aggEq TB op t l m).map fun r => (r.1, [], .one r.2)
    | _, _ => none
  | .unOp op _ x => unS op (ev x)
  | .convert src dst x => convS TB src dst (ev x)
  | .build t parts => match TB t with
    | some ti => match svOf ti.zero, ti.desc with
      | .p (.agg z), d => match placeS TB d with
        | some pl => (fillS pl z (parts.toList.map fun p => (p.1, ev p.2))).map fun l => ([], [], .agg l)
        | none => none
      | _, _ => none
    | none => none
  | .nilCheck x => match ev x with
    | .p (.one (.ptr b off)) => some ([], [], .one (.ptr b off))
    | .p (.one (.lit (.func (.func f) a c))) => some ([], [], .one (.lit (.func (.func f) a c)))
    | .clo f a c => some ([], [], .clo f a c)
    | _ => none
  | .slice t x lo hi none => (sliceS TB t (ev x) (lo.map ev) (hi.map ev)).map fun v => ([], [], v)
  | .sliceToArrayPointer t x => (arrayS TB t (ev x)).map fun v => ([], [], v)
  | .makeFunc (.func g) a c => match spsOf (a.toList.map ev), spsOf (c.toList.map ev) with
    | some f, some l => some ([], [], .clo g f l)
    | _, _ => none
  | _ => none

section
variable {Φ : Syms} {ρ : Nat → NV} {β : List Nat} {P : Program} {w : World} {TB : Tab} {heap : List Blk}

theorem nan_rung (f : Ieee.Format) (b : Nat) : (f.read b).isNaN = decide (¬ (b % f.signWeight < f.binade) ∧ ¬ (b % f.signWeight < f.infRung) ∧ ¬ (b % f.signWeight = f.infRung)) := by
  unfold Ieee.Format.read
  dsimp only
  split
  · rename_i h; simp [Ieee.Datum.isNaN, h]
  · split
    · rename_i h1 h2; simp [Ieee.Datum.isNaN, h2]
    · split
      · rename_i h1 h2 h3; simp [Ieee.Datum.isNaN, h3]
      · rename_i h1 h2 h3; simp [Ieee.Datum.isNaN, h1, h2, h3]

theorem neg_mod (k : FloatKind) (b : Nat) : Op.negFloat k b % k.format.signWeight = b % k.format.signWeight := by
  cases k
  · show (b ^^^ 2 ^ 31) % 2 ^ 31 = b % 2 ^ 31
    rw [Nat.xor_mod_two_pow]; simp
  · show (b ^^^ 2 ^ 63) % 2 ^ 63 = b % 2 ^ 63
    rw [Nat.xor_mod_two_pow]; simp

theorem neg_nan (k : FloatKind) (b : Nat) : (k.decode (Op.negFloat k b)).isNaN = (k.decode b).isNaN := by
  unfold FloatKind.decode
  rw [nan_rung, nan_rung, neg_mod]

theorem neg_lt (k : FloatKind) (b : Nat) (h : b < 2 ^ k.format.width) : Op.negFloat k b < 2 ^ k.format.width := by
  cases k
  · exact Nat.xor_lt_two_pow (n := 32) h (by decide)
  · exact Nat.xor_lt_two_pow (n := 64) h (by decide)

theorem can_neg (k : FloatKind) (b : Nat) : can k (Op.negFloat k b) = (can k b).map (Op.negFloat k) := by
  cases hn : (k.decode b).isNaN
  · rw [can_num hn, can_num (by rw [neg_nan]; exact hn)]; rfl
  · rw [can_nan hn, can_nan (by rw [neg_nan]; exact hn)]; rfl

theorem run_negFloat {k : FloatKind} {r n : Nat} (h : FIs k r (ρ n).gf) : FIs k (Op.negFloat k r) ((ρ n).gf.map (Op.negFloat k)) :=
  ⟨by rw [can_neg, h.out], neg_lt k r h.lt⟩

/-- One cell of a block. -/
theorem cell_in {p : Nat} {cs : Array Value} {t : TypeId} (hg : w.heap[p]? = some (.cells cs t (0, 0))) (j : Nat) : w.cell? ⟨p, j, none⟩ = cs[j]? := cell_of_row w p j cs t (0, 0) hg

theorem loadS_ok (hT : TabOK P TB) {t : TypeId} {a : SV} {r : SV} {va : Value} (H : HeapAt ρ β heap w) (h : loadS TB t a heap = some r) (ha : SVm ρ β a va) :
    ∃ v, (Instr.loadAt t va).run P w = .ok v w ∧ SVm ρ β r v := by
  unfold loadS at h
  split at h
  · rename_i b off ti hti
    obtain ⟨p, hp, rfl⟩ := ha
    cases hb : heap[b]? with
    | none => rw [hb] at h; cases h
    | some blk =>
      rw [hb] at h
      obtain ⟨p', cs, hp', hg, hl⟩ := H b blk hb
      obtain rfl : p = p' := by rw [hp] at hp'; exact Option.some.inj hp'
      obtain ⟨hu, hi, _⟩ := hT _ _ hti
      simp only [partS] at h
      split at h
      · rename_i hr
        split at h
        · rename_i hle
          have hle' := Nat.le_of_ble_eq_true hle
          cases h
          have h2 := (hl.drop off).take ti.size
          have hlen : ((cs.toList.drop off).take ti.size).length = ti.size := by rw [← h2.length]; simp; omega
          have hc : w.rangeAt p off ((cs.toList.drop off).take ti.size) := fun j v hj => by
            rw [cell_in hg]
            have : j < ti.size := by have := (List.getElem?_eq_some_iff.1 hj).1; omega
            simpa [this] using hj
          refine ⟨_, run_loadAt_mid w p off t _ ti.desc hc hu ?_ (by rw [hlen]; exact hi), _, rfl, by simpa using h2⟩
          revert hr; cases ti.desc <;> simp [isRowB, TypeDesc.isRow]
        · cases h
      · rename_i hr
        cases hx : blk.cells[off]? with
        | none => rw [hx] at h; cases h
        | some s =>
          rw [hx] at h
          cases h
          obtain ⟨v, hv, hm⟩ := hl.get? off hx
          have hv' : cs[off]? = some v := by simpa using hv
          have hagg : (isAgg t).run P w = .ok false w := by
            unfold isAgg
            rw [Sem.run_bind, run_underlying hu w]
            cases hd : ti.desc <;> simp_all [isRowB]
          refine ⟨v, ?_, hm⟩
          simp [Instr.loadAt, Instr.sureAddr, loadVar, Sem.run_bind, hagg, load, Sem.run, cell_in hg, hv']
  · cases h

theorem indexAddrS_ok (hT : TabOK P TB) {t : TypeId} {a i : SV} {r : SV} {va vi : Value} (h : indexAddrS TB t a i = some r) (ha : SVm ρ β a va) (hi : SVm ρ β i vi) :
    ∃ v, (Instr.indexAt t va vi).run P w = .ok v w ∧ SVm ρ β r v := by
  unfold indexAddrS at h
  split at h
  · rename_i b off k j ti hti
    obtain ⟨p, hp, rfl⟩ := ha
    obtain rfl : vi = _ := hi
    obtain ⟨hu, _, _⟩ := hT _ _ hti
    split at h
    · rename_i len e hd
      rw [hd] at hu
      cases he : TB e with
      | none => rw [he] at h; cases h
      | some te =>
        rw [he] at h
        simp only at h
        split at h
        · rename_i hlt
          cases h
          have hlt' : j < len := by simpa using hlt
          obtain ⟨_, hs, _⟩ := hT _ _ he
          cases hq : P.info? e with
          | none => simp [hq] at hs
          | some ie =>
            have hs' : ie.size = te.size := by simpa [hq] using hs
            have hc : (0 : Int) ≤ Int.ofNat j ∧ Int.ofNat j < (len : Int) := ⟨Int.natCast_nonneg j, by simpa using hlt'⟩
            refine ⟨.pointer (some ⟨p, off + j * te.size, none⟩), ?_, p, hp, rfl⟩
            have hadd : (⟨p, off, none⟩ : Addr).add (j * te.size) = ⟨p, off + j * te.size, none⟩ := Addr.add_mid _ _ _
            simp [Instr.indexAt, run_underlying hu, asIntOf, Instr.sureAddr, sizeOf, typeInfo, hq, hs', hlt', hadd]
        · cases h
    · cases h
  · cases h

theorem fieldAddrS_ok (hT : TabOK P TB) {t : TypeId} {a : SV} {f : Nat} {r : SV} {va : Value} (h : fieldAddrS TB t a f = some r) (ha : SVm ρ β a va) :
    ∃ v, (Instr.fieldAt t va f).run P w = .ok v w ∧ SVm ρ β r v := by
  unfold fieldAddrS at h
  split at h
  · rename_i b off ti hti
    obtain ⟨p, hp, rfl⟩ := ha
    obtain ⟨hu, _, _⟩ := hT _ _ hti
    split at h
    · rename_i fs hd
      rw [hd] at hu
      cases hf : fs[f]? with
      | none => rw [hf] at h; cases h
      | some fd =>
        rw [hf] at h
        simp only at h
        cases he : TB fd.type with
        | none => rw [he] at h; cases h
        | some tf =>
          rw [he] at h
          simp only at h
          split at h
          · cases h
          · rename_i hz
            cases h
            obtain ⟨_, hs, _⟩ := hT _ _ he
            cases hq : P.info? fd.type with
            | none => simp [hq] at hs
            | some ie =>
              have hs' : ie.size = tf.size := by simpa [hq] using hs
              have hz' : ¬ tf.size = 0 := by simpa using hz
              have hadd : (⟨p, off, none⟩ : Addr).add fd.offset = ⟨p, off + fd.offset, none⟩ := Addr.add_mid _ _ _
              refine ⟨.pointer (some ⟨p, off + fd.offset, none⟩), ?_, p, hp, rfl⟩
              simp [Instr.fieldAt, run_underlying hu, Instr.sureAddr, hf, fieldPlace, sizeOf, typeInfo, hq, hs', hz', hadd]
    · cases h
  · cases h

theorem indexS_ok (hT : TabOK P TB) {t : TypeId} {a i : SV} {r : SV} {va vi : Value} (h : indexS TB t a i = some r) (ha : SVm ρ β a va) (hi : SVm ρ β i vi) :
    ∃ v, (Instr.index t va vi).run P w = .ok v w ∧ SVm ρ β r v := by
  unfold indexS at h
  split at h
  · rename_i l k j ti hti
    obtain ⟨cs, rfl, hl⟩ := ha
    obtain rfl : vi = _ := hi
    obtain ⟨hu, _, _⟩ := hT _ _ hti
    split at h
    · rename_i len e hd
      rw [hd] at hu
      cases he : TB e with
      | none => rw [he] at h; cases h
      | some te =>
        rw [he] at h
        simp only at h
        split at h
        · rename_i hlt
          have hlt' : j < len := by simpa using hlt
          obtain ⟨hue, hs, _⟩ := hT _ _ he
          cases hq : P.info? e with
          | none => simp [hq] at hs
          | some ie =>
            have hs' : ie.size = te.size := by simpa [hq] using hs
            obtain ⟨v, hv, hm⟩ := run_part (w := w) hue hs h hl
            refine ⟨v, ?_, hm⟩
            simp [Instr.index, asIntOf, run_underlying hu, hlt', sizeOf, typeInfo, hq, hs', hv]
        · cases h
    · cases h
  · cases h

theorem fieldS_ok (hT : TabOK P TB) {t : TypeId} {a : SV} {f : Nat} {r : SV} {va : Value} (h : fieldS TB t a f = some r) (ha : SVm ρ β a va) :
    ∃ v, (Instr.field t va f).run P w = .ok v w ∧ SVm ρ β r v := by
  unfold fieldS at h
  split at h
  · rename_i l ti hti
    obtain ⟨cs, rfl, hl⟩ := ha
    obtain ⟨hu, _, _⟩ := hT _ _ hti
    split at h
    · rename_i fs hd
      rw [hd] at hu
      cases hf : fs[f]? with
      | none => rw [hf] at h; cases h
      | some fd =>
        rw [hf] at h
        simp only at h
        cases he : TB fd.type with
        | none => rw [he] at h; cases h
        | some tf =>
          rw [he] at h
          obtain ⟨hue, hs, _⟩ := hT _ _ he
          obtain ⟨v, hv, hm⟩ := run_part (w := w) hue hs h hl
          refine ⟨v, ?_, hm⟩
          simp [Instr.field, run_underlying hu, hf, asAgg, hv]
    · cases h
  · cases h

theorem near_lt (k : FloatKind) (n : Int) : k.nearest n < 2 ^ k.format.width := by
  cases k
  · exact Ieee.single.write_lt (.number (n < 0) n.natAbs 0)
  · exact Ieee.double.write_lt (.number (n < 0) n.natAbs 0)

theorem asked_int {k : FloatKind} {i : IntKind} {v : NV} (h : Asked (16 + 8 * kn k + ikn i) v) : ∃ n, truncI k v.gf = some n ∧ i.min ≤ n ∧ n ≤ i.max := by
  cases k <;> cases i <;> exact h

theorem slim_lt (b : Nat) : slim b < 2 ^ FloatKind.f32.format.width := Ieee.single.write_lt _

theorem convS_ok (hT : TabOK P TB) {src dst : TypeId} {x : SV} {ds : List Df} {rq : List (Nat × Nat)} {r : SV} {vx : Value} (h : convS TB src dst x = some (ds, rq, r))
    (hd : ∀ d ∈ ds, ρ d.id = d.sem Φ ρ) (hq : ∀ q ∈ rq, Asked q.1 (ρ q.2)) (hx : SVm ρ β x vx) :
    ∃ v n, (convert src dst vx).run P w = .ok v (w.drewN n) ∧ SVm ρ β r v := by
  unfold convS at h
  split at h
  · rename_i s ts td hts htd
    obtain ⟨hus, _, _⟩ := hT _ _ hts
    obtain ⟨hud, _, _⟩ := hT _ _ htd
    have hsome : (P.underlying src).isSome = true := by rw [hus]; rfl
    split at h
    · rename_i k kk n hk
      cases h
      obtain rfl : vx = _ := hx
      rw [hk] at hud
      refine ⟨.int k (k.wrap n), 0, ?_, rfl⟩
      simp [convert, run_underlying hus, run_underlying hud, Conv.intToInt, World.drewN]
    · rename_i k kk n hk
      cases h
      obtain rfl : vx = _ := hx
      rw [hk] at hud
      refine ⟨.float k (k.nearest n), 0, ?_, rfl⟩
      simp [convert, run_underlying hus, run_underlying hud, Conv.intToFloat, World.drewN]
    · rename_i n hk
      cases h
      obtain ⟨b, rfl, hb⟩ := hx
      rw [hk] at hud
      exact ⟨_, 0, run_convert_float_float w src dst .f32 .f32 b b hsome hud (by simp [floatToFloatBits]), b, rfl, hb⟩
    · rename_i n hk
      cases h
      obtain ⟨b, rfl, hb⟩ := hx
      rw [hk] at hud
      exact ⟨_, 0, run_convert_float_float w src dst .f64 .f64 b b hsome hud (by simp [floatToFloatBits]), b, rfl, hb⟩
    · rename_i n hk
      cases h
      obtain ⟨b, rfl, hb⟩ := hx
      rw [hk] at hud
      obtain ⟨r, n', hrun, hr⟩ := run_widen (P := P) w src dst b hsome hud
      refine ⟨_, n', hrun, r, rfl, ?_⟩
      rw [hd _ (List.mem_singleton.2 rfl)]
      refine hr.of_eq ?_
      rw [hb.out]
      rfl
    · rename_i n hk
      cases h
      obtain ⟨b, rfl, hb⟩ := hx
      rw [hk] at hud
      obtain ⟨r, n', hrun, hr⟩ := run_slim (P := P) w src dst b hsome hud (fun c hc => hq (0, n) (List.mem_singleton.2 rfl) c (by rw [← hb.out]; exact hc))
      refine ⟨_, n', hrun, r, rfl, ?_⟩
      rw [hd _ (List.mem_singleton.2 rfl)]
      refine hr.of_eq ?_
      rw [hb.out]
      rfl
    · rename_i b hk
      split at h
      · rename_i hl
        cases h
        obtain rfl : vx = _ := hx
        rw [hk] at hud
        obtain ⟨r, n', hrun, hr⟩ := run_widen (P := P) w src dst b hsome hud
        refine ⟨_, n', hrun, r, rfl, ?_⟩
        rw [hd ⟨6, 0, [Df.id ⟨4, b, []⟩]⟩ (by simp)]
        refine hr.of_eq ?_
        simp only [Df.sem, List.getD_cons_zero, hd ⟨4, b, []⟩ (by simp), NV.gf]
      · cases h
    · rename_i b hk
      split at h
      · rename_i hnan
        cases h
        obtain rfl : vx = _ := hx
        rw [hk] at hud
        have hn : (FloatKind.f64.decode b).isNaN = true := by
          unfold FloatKind.decode
          rw [nan_rung]
          have h1 : 9218868437227405312 < b % 9223372036854775808 := by simpa using hnan
          have e1 : FloatKind.f64.format.signWeight = 9223372036854775808 := rfl
          have e2 : FloatKind.f64.format.binade = 4503599627370496 := rfl
          have e3 : FloatKind.f64.format.infRung = 9218868437227405312 := rfl
          rw [e1, e2, e3]
          exact decide_eq_true (by omega)
        obtain ⟨r, n', hrun, hr⟩ := run_slim (P := P) w src dst b hsome hud (fun c hc => by rw [can_nan hn] at hc; cases hc)
        refine ⟨_, n', hrun, r, rfl, ?_⟩
        rw [hd _ (List.mem_singleton.2 rfl)]
        refine hr.of_eq ?_
        rw [can_nan hn]
        exact (can_nan (by decide)).symm
      · cases h
    · rename_i b hk
      cases h
      obtain rfl : vx = _ := hx
      rw [hk] at hud
      exact ⟨_, 0, run_convert_float_float w src dst .f32 .f32 b b hsome hud (by simp [floatToFloatBits]), rfl⟩
    · rename_i b hk
      cases h
      obtain rfl : vx = _ := hx
      rw [hk] at hud
      exact ⟨_, 0, run_convert_float_float w src dst .f64 .f64 b b hsome hud (by simp [floatToFloatBits]), rfl⟩
    · rename_i k kk n hk
      cases h
      obtain rfl : vx = _ := hx
      rw [hk] at hud
      refine ⟨.int k (k.wrap (ρ n).gi), 0, ?_, ?_⟩
      · simp [convert, run_underlying hus, run_underlying hud, Conv.intToInt, World.drewN]
      · show Value.int _ _ = Value.int k (ρ _).gi
        rw [hd _ (List.mem_singleton.2 rfl)]
        simp [Df.sem, NV.gi, ik_ikn]
    · rename_i kk n hk
      cases h
      obtain rfl : vx = _ := hx
      rw [hk] at hud
      refine ⟨.float .f32 (FloatKind.f32.nearest (ρ n).gi), 0, ?_, _, rfl, ?_⟩
      · simp [convert, run_underlying hus, run_underlying hud, Conv.intToFloat, World.drewN]
      · rw [hd _ (List.mem_singleton.2 rfl)]
        exact FIs.self (near_lt .f32 _)
    · rename_i kk n hk
      cases h
      obtain rfl : vx = _ := hx
      rw [hk] at hud
      refine ⟨.float .f64 (FloatKind.f64.nearest (ρ n).gi), 0, ?_, _, rfl, ?_⟩
      · simp [convert, run_underlying hus, run_underlying hud, Conv.intToFloat, World.drewN]
      · rw [hd _ (List.mem_singleton.2 rfl)]
        exact FIs.self (near_lt .f64 _)
    · rename_i k fk n hk
      cases h
      obtain ⟨b, rfl, hb⟩ := hx
      rw [hk] at hud
      obtain ⟨i, hi, h1, h2⟩ := asked_int (hq _ (List.mem_singleton.2 rfl))
      have hb' : (ρ n).gf = some b ∧ (fk.decode b).toInt .zero = some i := by
        unfold truncI at hi
        split at hi
        · rename_i c hc
          have := (can_some (hb.out.trans hc)).1
          subst this
          exact ⟨hc, hi⟩
        · cases hi
      refine ⟨.int k i, 0, ?_, ?_⟩
      · simp [convert, run_underlying hus, run_underlying hud, Conv.floatToInt, World.drewN, hb'.2, h1, h2]
      · show Value.int _ _ = Value.int k (ρ _).gi
        rw [hd _ (List.mem_singleton.2 rfl)]
        simp [Df.sem, NV.gi, kf_kn, hi]
    · rename_i k fk b hk
      split at h
      · rename_i i hi
        split at h
        · rename_i hc
          simp only [Bool.and_eq_true, decide_eq_true_eq] at hc
          cases h
          obtain rfl : vx = _ := hx
          rw [hk] at hud
          refine ⟨.int k i, 0, ?_, rfl⟩
          simp [convert, run_underlying hus, run_underlying hud, Conv.floatToInt, World.drewN, hi, hc.1, hc.2]
        · cases h
      · cases h
    · cases h
  · cases h

theorem unS_ok {op : UnOp} {x : SV} {ds : List Df} {rq : List (Nat × Nat)} {r : SV} {vx : Value} (h : unS op x = some (ds, rq, r))
    (hd : ∀ d ∈ ds, ρ d.id = d.sem Φ ρ) (hx : SVm ρ β x vx) : ∃ v, (Op.unary op vx).run P w = .ok v w ∧ SVm ρ β r v := by
  unfold unS at h
  split at h
  · cases h
    obtain rfl : vx = _ := hx
    refine ⟨_, rfl, ?_⟩
    simp [SVm, SPm, SSm]
  · cases h
    obtain rfl : vx = _ := hx
    exact ⟨_, rfl, rfl⟩
  · rename_i k n
    cases h
    obtain ⟨b, rfl, hb⟩ := hx
    refine ⟨_, rfl, _, rfl, ?_⟩
    rw [hd _ (List.mem_singleton.2 rfl)]
    refine (run_negFloat hb).of_eq ?_
    cases k <;> rfl
  · cases h
    obtain rfl : vx = _ := hx
    exact ⟨_, rfl, rfl⟩
  · cases h
    obtain rfl : vx = _ := hx
    exact ⟨_, rfl, rfl⟩
  · cases h

theorem splice_list : ∀ (vs : List Value) (o : Nat) (cs : Array Value), o + vs.length ≤ cs.size → (splice cs o vs).toList = cs.toList.take o ++ (vs ++ cs.toList.drop (o + vs.length))
  | [], o, cs, _ => by simp [splice]
  | v :: r, o, cs, h => by
    simp only [List.length_cons] at h
    have ih := splice_list r (o + 1) (cs.setIfInBounds o v) (by simp; omega)
    rw [splice, ih]
    apply List.ext_getElem?
    intro i
    simp only [Array.toList_setIfInBounds, List.length_cons]
    have e1 : o + 1 + r.length = o + (r.length + 1) := by omega
    rw [e1]
    rcases Nat.lt_trichotomy i o with hi | hi | hi
    · rw [List.getElem?_append_left (by simp; omega), List.getElem?_append_left (by simp; omega)]
      rw [List.getElem?_take_of_lt (by omega), List.getElem?_take_of_lt (by omega), List.getElem?_set_ne (by omega)]
    · subst hi
      rw [List.getElem?_append_left (by simp; omega), List.getElem?_append_right (by simp; omega)]
      rw [List.getElem?_take_of_lt (by omega), List.getElem?_set_self (by simp; omega)]
      have : i - (List.take i cs.toList).length = 0 := by simp; omega
      rw [this]
      rfl
    · rw [List.getElem?_append_right (l₁ := List.take (o + 1) (cs.toList.set o v)) (by simp; omega), List.getElem?_append_right (l₁ := List.take o cs.toList) (by simp; omega)]
      have e2 : i - (List.take (o + 1) (cs.toList.set o v)).length = i - (o + 1) := by simp; omega
      have e3 : i - (List.take o cs.toList).length = (i - (o + 1)) + 1 := by simp; omega
      rw [e2, e3]
      rw [show (v :: r) ++ List.drop (o + (r.length + 1)) cs.toList = v :: (r ++ List.drop (o + (r.length + 1)) cs.toList) from rfl, List.getElem?_cons_succ]
      congr 2
      rw [List.drop_set_of_lt (by omega)]

theorem zipIdx_fold : ∀ (vs : List Value) (o k : Nat) (cs : Array Value), ((vs.zipIdx k).foldl (fun cs (x : Value × Nat) => cs.setIfInBounds (o + x.2) x.1) cs) = splice cs (o + k) vs
  | [], o, k, cs => rfl
  | v :: r, o, k, cs => by
    rw [List.zipIdx_cons, List.foldl_cons, zipIdx_fold r o (k + 1)]
    rfl

theorem cellsV_ok {s : SV} {l : List SS} {v : Value} (h : cellsV s = some l) (hv : SVm ρ β s v) : all2 (SSm ρ β) l v.cells.toList := by
  unfold cellsV at h
  split at h
  · cases h
  · cases h
  · rename_i s hs hu
    cases h
    have : v.cells = #[v] := by
      cases v <;> first | rfl | skip
      rename_i cs
      exfalso
      cases s with
      | lit u => obtain rfl : _ = u := hv; exact hs _ rfl
      | flt k n => obtain ⟨r, e, _⟩ := hv; cases e
      | int k n => cases (show Value.agg cs = .int k _ from hv)
      | bool n g => cases (show Value.agg cs = .bool _ from hv)
      | ptr b o => obtain ⟨r, _, e⟩ := hv; cases e
      | slc b o u v => obtain ⟨r, _, e⟩ := hv; cases e
      | unk => exact hu rfl
    rw [this]
    exact ⟨hv, trivial⟩
  · cases h
    obtain ⟨cs, rfl, hl⟩ := hv
    exact hl
  · cases h
  · cases h

theorem fillS_ok {place place' : Nat → Option (Nat × Nat)} (hpl : ∀ i, place' i = place i) {cv : Operand → Value} {ev : Operand → SV} (hev : ∀ x, SVm ρ β (ev x) (cv x)) : ∀ (parts : List (Nat × Operand)) (z : List SS) (cs : Array Value) (l : List SS), all2 (SSm ρ β) z cs.toList →
    fillS place z (parts.map fun p => (p.1, ev p.2)) = some l → ∃ cs', Instr.fill place' cs (parts.map fun p => (p.1, cv p.2)) = some cs' ∧ all2 (SSm ρ β) l cs'.toList
  | [], z, cs, l, hz, h => by cases h; exact ⟨cs, rfl, hz⟩
  | (i, x) :: r, z, cs, l, hz, h => by
    simp only [List.map_cons, fillS] at h
    split at h
    · rename_i lx off size hlx hp
      split at h
      · rename_i hc
        simp only [Bool.and_eq_true] at hc
        have hc1 := Nat.eq_of_beq_eq_true hc.1
        have hc2 := Nat.le_of_ble_eq_true hc.2
        have hx := cellsV_ok hlx (hev x)
        have hlen : (cv x).cells.size = lx.length := by rw [← Array.length_toList, ← hx.length]
        have hzl : z.length = cs.size := by rw [← Array.length_toList, ← hz.length]
        have hfold : ((cv x).cells.zipIdx.foldl (fun cs (y : Value × Nat) => cs.setIfInBounds (off + y.2) y.1) cs) = splice cs off (cv x).cells.toList := by
          have := zipIdx_fold (cv x).cells.toList off 0 cs
          simp only [Nat.add_zero] at this
          rw [← this, ← Array.foldl_toList]
          simp
        obtain ⟨cs', h1, h2⟩ := fillS_ok hpl hev r _ (splice cs off (cv x).cells.toList) l (by
          rw [splice_list _ _ _ (by simp; omega)]
          have e : (cv x).cells.toList.length = lx.length := by simp [hlen]
          rw [e]
          exact (hz.take _).append (hx.append (hz.drop _))) h
        refine ⟨cs', ?_, h2⟩
        simp only [List.map_cons, Instr.fill, hpl i, hp]
        rw [if_neg (by simp; omega)]
        rw [← h1]
        congr 1
      · cases h
    · cases h

theorem placesS_ok (hT : TabOK P TB) : ∀ {fs : List Field} {l : List (Nat × Nat)}, placesS TB fs = some l → fs.mapM (fun f => (P.info? f.type).map fun i => (f.offset, i.size)) = some l
  | [], l, h => by cases h; rfl
  | f :: r, l, h => by
    unfold placesS at h
    split at h
    · rename_i tf l' htf hl
      cases h
      obtain ⟨_, hs, _⟩ := hT _ _ htf
      cases hq : P.info? f.type with
      | none => simp [hq] at hs
      | some ie =>
        have hs' : ie.size = tf.size := by simpa [hq] using hs
        have ih := placesS_ok hT hl
        simp only [List.mapM_cons, hq, Option.map_some, Option.bind_eq_bind, Option.bind_some, ih, Option.pure_def, hs']
    · cases h

theorem spsOf_ok : ∀ {l : List SV} {ps : List SP} {vs : List Value}, spsOf l = some ps → all2 (SVm ρ β) l vs → all2 (SPm ρ β) ps vs
  | [], ps, [], h, _ => by cases h; trivial
  | x :: l, ps, v :: vs, h, ⟨h1, h2⟩ => by
    cases x with
    | p x =>
      simp only [spsOf] at h
      split at h
      · rename_i l' hl
        cases h
        exact ⟨h1, spsOf_ok hl h2⟩
      · cases h
    | tup l => cases h
    | clo g a c => cases h

theorem eqS_ok {a b : SS} {ds : List Df} {s : SS} {va vb : Value} (h : eqS a b = some (ds, s)) (hd : ∀ d ∈ ds, ρ d.id = d.sem Φ ρ) (ha : SSm ρ β a va) (hb : SSm ρ β b vb) : ∃ x y, va = .bool x ∧ vb = .bool y ∧ SSm ρ β s (.bool (x == y)) := by
  unfold eqS at h
  split at h
  · cases h
    obtain rfl : va = _ := ha
    obtain rfl : vb = _ := hb
    exact ⟨_, _, rfl, rfl, rfl⟩
  · rename_i n g b
    cases h
    obtain rfl : va = _ := ha
    obtain rfl : vb = _ := hb
    refine ⟨_, _, rfl, rfl, ?_⟩
    show Value.bool _ = Value.bool _
    cases (ρ n).gb <;> cases g <;> cases b <;> rfl
  · rename_i b n g
    cases h
    obtain rfl : va = _ := ha
    obtain rfl : vb = _ := hb
    refine ⟨_, _, rfl, rfl, ?_⟩
    show Value.bool _ = Value.bool _
    cases (ρ n).gb <;> cases g <;> cases b <;> rfl
  · rename_i n g m h'
    split at h
    · rename_i hm
      obtain rfl := Nat.eq_of_beq_eq_true hm
      cases h
      obtain rfl : va = _ := ha
      obtain rfl : vb = _ := hb
      refine ⟨_, _, rfl, rfl, ?_⟩
      show Value.bool _ = Value.bool _
      cases (ρ n).gb <;> cases g <;> cases h' <;> rfl
    · cases h
      obtain rfl : va = _ := ha
      obtain rfl : vb = _ := hb
      refine ⟨_, _, rfl, rfl, ?_⟩
      show Value.bool _ = Value.bool _
      rw [hd _ (List.mem_singleton.2 rfl)]
      show Value.bool _ = Value.bool (((ρ n).gb == (ρ m).gb) != _)
      cases (ρ n).gb <;> cases (ρ m).gb <;> cases g <;> cases h' <;> rfl
  · cases h

theorem notS_ok {s : SS} {b : Bool} (h : SSm ρ β s (.bool b)) : SSm ρ β (notS s) (.bool !b) := by
  cases s with
  | lit v =>
    have h : Value.bool b = v := h
    subst h
    rfl
  | bool n g =>
    have h : Value.bool b = .bool _ := h
    cases h
    show Value.bool _ = Value.bool _
    cases (ρ n).gb <;> cases g <;> rfl
  | flt k n => obtain ⟨r, e, _⟩ := h; cases e
  | int k n => cases (show Value.bool b = .int k _ from h)
  | ptr b o => obtain ⟨r, _, e⟩ := h; cases e
  | slc b o u v => obtain ⟨r, _, e⟩ := h; cases e
  | unk => exact trivial

theorem boolS_ok (hT : TabOK P TB) {op : BinOp} {t : TypeId} {a b : SS} {ds : List Df} {s : SS} {va vb : Value} (h : boolS TB op t a b = some (ds, s)) (hd : ∀ d ∈ ds, ρ d.id = d.sem Φ ρ) (ha : SSm ρ β a va) (hb : SSm ρ β b vb) :
    (∃ v, (binOp op t va vb).run P w = .ok v w ∧ SSm ρ β s v) ∧ ∀ X Y, eqGuard op t X Y va vb = pure () := by
  unfold boolS at h
  cases ht : TB t with
  | none => rw [ht] at h; cases h
  | some ti =>
    rw [ht] at h
    simp only at h
    obtain ⟨hu, _, _⟩ := hT _ _ ht
    split at h
    case isFalse => cases h
    rename_i hdesc
    have hu' : P.underlying t = some .bool := by
      rw [hu]
      cases e : ti.desc <;> rw [e] at hdesc <;> first | rfl | cases hdesc
    have run : ∀ x y : Bool, (Op.equalIn 10000 t (.bool x) (.bool y)).run P w = .ok (x == y) w := fun x y => run_equalIn_bool' w 9999 t x y hu'
    split at h
    · obtain ⟨x, y, rfl, rfl, hs⟩ := eqS_ok h hd ha hb
      refine ⟨⟨_, ?_, hs⟩, fun _ _ => rfl⟩
      simp [binOp, Op.equal, Op.maxDepth, run, Result.andThen]
    · simp only [Option.map_eq_some_iff] at h
      obtain ⟨r, hr, h⟩ := h
      cases h
      obtain ⟨x, y, rfl, rfl, hs⟩ := eqS_ok (show eqS a b = some (r.1, r.2) from hr) hd ha hb
      refine ⟨⟨_, ?_, notS_ok hs⟩, fun _ _ => rfl⟩
      simp [binOp, Op.equal, Op.maxDepth, run, Result.andThen]
    · cases h

theorem eqEl_ok {a b : SS} {ds : List Df} {ids : List Nat} {va vb : Value} {e : TypeId} {D : TypeDesc} {d : Nat} (h : eqEl a b = some (ds, ids)) (hd : ∀ x ∈ ds, ρ x.id = x.sem Φ ρ) (hu : P.underlying e = some D) (hs : scalD D = true)
    (ha : SSm ρ β a va) (hb : SSm ρ β b vb) (hk : (∃ k, D = .int k) → (∃ k n, va = .int k n)) (hk2 : (∃ k, D = .float k) → (∃ k n, va = .float k n)) : (Op.equalIn (d + 1) e va vb).run P w = .ok (ids.all fun n => (ρ n).gb) w := by
  unfold eqEl at h
  split at h
  · rename_i k n k' m
    split at h
    case isFalse => cases h
    rename_i hkk
    obtain rfl := sameKind_eq hkk
    obtain rfl : va = _ := ha
    obtain rfl : vb = _ := hb
    cases D with
    | int k2 =>
      rw [run_equalIn_int w d e k k2 _ _ hu]
      split at h
      · rename_i hm
        obtain rfl := Nat.eq_of_beq_eq_true hm
        cases h
        simp
      · cases h
        have := hd _ (List.mem_singleton.2 rfl)
        simp only [List.all_cons, List.all_nil, Bool.and_true]
        rw [this]
        rfl
    | float k2 => obtain ⟨_, _, e⟩ := hk2 ⟨_, rfl⟩; cases e
    | _ => cases hs
  · rename_i k n k' c
    split at h
    case h_2 => cases h
    rename_i d m hm
    cases h
    obtain rfl : va = _ := ha
    have hb := asI_ok hm (fun d hd' => hd d (by simp [hd'])) hb
    subst hb
    cases D with
    | int k2 =>
      rw [run_equalIn_int w _ e k k2 _ _ hu]
      simp only [List.all_cons, List.all_nil, Bool.and_true]
      rw [hd ⟨21, 0, [n, m]⟩ (by simp)]
      rfl
    | float k2 => obtain ⟨_, _, e⟩ := hk2 ⟨_, rfl⟩; cases e
    | _ => cases hs
  · rename_i k' c k n
    split at h
    case h_2 => cases h
    rename_i d m hm
    cases h
    obtain rfl : vb = _ := hb
    have ha := asI_ok hm (fun d hd' => hd d (by simp [hd'])) ha
    subst ha
    cases D with
    | int k2 =>
      rw [run_equalIn_int w _ e k k2 _ _ hu]
      simp only [List.all_cons, List.all_nil, Bool.and_true]
      rw [hd ⟨21, 0, [n, m]⟩ (by simp)]
      show _ = Result.ok ((ρ n).gi == (ρ m).gi) w
      rw [Bool.beq_comm]
    | float k2 => obtain ⟨_, _, e⟩ := hk2 ⟨_, rfl⟩; cases e
    | _ => cases hs
  · rename_i k a k' b
    split at h
    case isFalse => cases h
    rename_i hab
    simp only [Bool.and_eq_true, decide_eq_true_eq] at hab
    obtain rfl := sameKind_eq hab.1
    obtain rfl := hab.2
    cases h
    obtain rfl : va = _ := ha
    obtain rfl : vb = _ := hb
    cases D with
    | int k2 => rw [run_equalIn_int w _ e k k2 _ _ hu]; simp
    | float k2 => obtain ⟨_, _, e⟩ := hk2 ⟨_, rfl⟩; cases e
    | _ => cases hs
  · rename_i hno
    split at h
    case h_2 => cases h
    rename_i k hfk
    split at h
    case h_2 => cases h
    rename_i d1 i d2 j e1 e2
    cases h
    obtain ⟨x, rfl, hx⟩ := asF_ok e1 (fun d hd' => hd d (by simp [hd'])) ha
    obtain ⟨y, rfl, hy⟩ := asF_ok e2 (fun d hd' => hd d (by simp [hd'])) hb
    cases D with
    | int k2 => obtain ⟨_, _, e⟩ := hk ⟨_, rfl⟩; cases e
    | float k2 =>
      have hn := hd ⟨8, kn k, [i, j]⟩ (by simp)
      simp only [List.all_cons, List.all_nil, Bool.and_true]
      rw [hn]
      have ho : k.format.order x y = ford k (ρ i).gf (ρ j).gf := by rw [order_can, hx.out, hy.out]
      simp [Op.equalIn, run_underlying hu, Op.floatEq, ho, Df.sem, kf_kn, NV.gb]
    | _ => cases hs

theorem guard_scal {t e : TypeId} {n : Nat} {D : TypeDesc} (hu : P.underlying t = some (.array n e)) (hue : P.underlying e = some D) (hs : scalD D = true) : P.eqGuardType P.depth t = false := by
  have h0 : ∀ d, P.eqGuardType (d + 2) t = false := fun d => by
    unfold Program.eqGuardType
    rw [hu]
    simp only
    unfold Program.eqGuardType
    rw [hue]
    cases D <;> first | rfl | cases hs
  have hd : ∃ d, P.depth = d + 2 := ⟨P.depth - 2, by unfold Program.depth; omega⟩
  obtain ⟨d, hd⟩ := hd
  rw [hd]
  exact h0 d

theorem fitsD_ok {D : TypeDesc} {a : SS} {va : Value} (h : fitsD D a = true) (ha : SSm ρ β a va) : ((∃ k, D = .int k) → (∃ k n, va = .int k n)) ∧ ((∃ k, D = .float k) → (∃ k n, va = .float k n)) := by
  unfold fitsD at h
  split at h
  · obtain rfl : va = _ := ha; exact ⟨fun _ => ⟨_, _, rfl⟩, fun ⟨_, e⟩ => by cases e⟩
  · obtain rfl : va = _ := ha; exact ⟨fun _ => ⟨_, _, rfl⟩, fun ⟨_, e⟩ => by cases e⟩
  · obtain ⟨r, rfl, _⟩ := ha; exact ⟨fun ⟨_, e⟩ => (by cases e), fun _ => ⟨_, _, rfl⟩⟩
  · obtain rfl : va = _ := ha; exact ⟨fun ⟨_, e⟩ => (by cases e), fun _ => ⟨_, _, rfl⟩⟩
  · cases h

theorem eqItems_ok {e : TypeId} {D : TypeDesc} {d : Nat} {xs ys : Array Value} (hu : P.underlying e = some D) (hs : scalD D = true) (hc : P.cellsOf e = 1) : ∀ (l m : List SS) (o : Nat) (ds : List Df) (ids : List Nat), eqEls l m = some (ds, ids) → (∀ x ∈ ds, ρ x.id = x.sem Φ ρ) → l.all (fitsD D) = true →
    all2 (SSm ρ β) l (xs.toList.drop o) → all2 (SSm ρ β) m (ys.toList.drop o) → (Op.eqItems (d + 1) e (P.cellsOf e) xs ys (List.range' o l.length)).run P w = .ok (ids.all fun n => (ρ n).gb) w
  | [], [], o, ds, ids, h, hd, hf, hl, hm => by cases h; simp [Op.eqItems]
  | a :: l, b :: m, o, ds, ids, h, hd, hf, hl, hm => by
    unfold eqEls at h
    split at h
    case h_2 => cases h
    rename_i d1 i1 d2 i2 e1 e2
    cases h
    simp only [List.all_cons, Bool.and_eq_true] at hf
    have hx : ∃ v, xs[o]? = some v ∧ SSm ρ β a v ∧ all2 (SSm ρ β) l (xs.toList.drop (o + 1)) := by
      match hdr : xs.toList.drop o, hl with
      | v :: r, ⟨h1, h2⟩ =>
        have h3 := congrArg List.head? hdr
        have h4 := congrArg List.tail hdr
        simp at h3 h4
        exact ⟨v, by simpa using h3, h1, by rw [← List.drop_drop] ; simpa [hdr] using h2⟩
    have hy : ∃ v, ys[o]? = some v ∧ SSm ρ β b v ∧ all2 (SSm ρ β) m (ys.toList.drop (o + 1)) := by
      match hdr : ys.toList.drop o, hm with
      | v :: r, ⟨h1, h2⟩ =>
        have h3 := congrArg List.head? hdr
        simp at h3
        exact ⟨v, by simpa using h3, h1, by rw [← List.drop_drop] ; simpa [hdr] using h2⟩
    obtain ⟨vx, hx1, hx2, hx3⟩ := hx
    obtain ⟨vy, hy1, hy2, hy3⟩ := hy
    have hagg : (isAgg e).run P w = .ok false w := by
      unfold isAgg
      rw [Sem.run_bind, run_underlying hu w]
      cases D <;> first | rfl | cases hs
    have px : (part e xs (o * P.cellsOf e)).run P w = .ok vx w := by rw [hc, Nat.mul_one]; simp [part, Sem.run_bind, hagg, hx1]
    have py : (part e ys (o * P.cellsOf e)).run P w = .ok vy w := by rw [hc, Nat.mul_one]; simp [part, Sem.run_bind, hagg, hy1]
    have he := eqEl_ok (w := w) (d := d) e1 (fun x hx => hd x (by simp [hx])) hu hs hx2 hy2 (fitsD_ok hf.1 hx2).1 (fitsD_ok hf.1 hx2).2
    have ih := eqItems_ok (d := d) hu hs hc l m (o + 1) d2 i2 e2 (fun x hx => hd x (by simp [hx])) hf.2 hx3 hy3
    simp only [List.length_cons, List.range'_succ, Op.eqItems, Sem.run_bind, px, py, he, Result.andThen_ok]
    cases hr : (i1.all fun n => (ρ n).gb) with
    | false => simp [List.all_append, hr]
    | true => simp [List.all_append, hr]; simpa using ih

theorem allOf_ok {ids : List Nat} (hd : ∀ x ∈ (allOf ids).1, ρ x.id = x.sem Φ ρ) : SSm ρ β (allOf ids).2 (.bool (ids.all fun n => (ρ n).gb)) := by
  cases ids with
  | nil => exact rfl
  | cons i r =>
    have := hd ⟨22, 0, i :: r⟩ (by simp [allOf])
    show Value.bool _ = Value.bool ((ρ (Df.id ⟨22, 0, i :: r⟩)).gb != false)
    rw [this]
    simp [Df.sem, NV.gb]

theorem guard_rows {t e f : TypeId} {n k : Nat} {D : TypeDesc} (hu : P.underlying t = some (.array n e)) (hue : P.underlying e = some (.array k f)) (huf : P.underlying f = some D) (hs : scalD D = true) : P.eqGuardType P.depth t = false := by
  have h0 : ∀ d, P.eqGuardType (d + 3) t = false := fun d => by
    unfold Program.eqGuardType
    rw [hu]
    simp only
    unfold Program.eqGuardType
    rw [hue]
    simp only
    unfold Program.eqGuardType
    rw [huf]
    cases D <;> first | rfl | cases hs
  have hd : ∃ d, P.depth = d + 3 := ⟨P.depth - 3, by unfold Program.depth Made.depth; omega⟩
  obtain ⟨d, hd⟩ := hd
  rw [hd]
  exact h0 d

theorem all_sub {p : SS → Bool} {l : List SS} (h : l.all p = true) (a b : Nat) : ((l.drop a).take b).all p = true := List.all_eq_true.2 fun x hx => List.all_eq_true.1 h x (List.mem_of_mem_drop (List.mem_of_mem_take hx))

theorem eqRows_ok {e f : TypeId} {te : TyI} {D : TypeDesc} {k : Nat} {d : Nat} {xs ys : Array Value} {l m : List SS} (hue : P.underlying e = some te.desc) (hse : (P.info? e).map (·.size) = some te.size) (hd1 : te.desc = .array k f) (hk : te.size = k)
    (huf : P.underlying f = some D) (hs : scalD D = true) {i1 : TypeInfo} (hif : P.info? f = some i1) (hcf : P.cellsOf f = 1) (hce : P.cellsOf e = k) (hl : all2 (SSm ρ β) l xs.toList) (hm : all2 (SSm ρ β) m ys.toList) (hf : l.all (fitsD D) = true) :
    ∀ (n o : Nat) (ds : List Df) (ids : List Nat), o * k + n * k ≤ l.length → o * k + n * k ≤ m.length → eqRows k l m n o = some (ds, ids) → (∀ x ∈ ds, ρ x.id = x.sem Φ ρ) →
    (Op.eqItems (d + 2) e (P.cellsOf e) xs ys (List.range' o n)).run P w = .ok (ids.all fun n => (ρ n).gb) w
  | 0, o, ds, ids, _, _, h, hd => by cases h; simp [Op.eqItems]
  | n + 1, o, ds, ids, hln, hmn, h, hd => by
    unfold eqRows at h
    split at h
    case h_2 => cases h
    rename_i d1 i1' d2 i2 e1 e2
    cases h
    have hmul : (n + 1) * k = n * k + k := by rw [Nat.add_mul, Nat.one_mul]
    have hmul2 : (o + 1) * k = o * k + k := by rw [Nat.add_mul, Nat.one_mul]
    have hrow : isRowB te.desc = true := by rw [hd1]; rfl
    have part1 : ∀ {l : List SS} {xs : Array Value}, all2 (SSm ρ β) l xs.toList → o * k + (n + 1) * k ≤ l.length → ∃ cs, (part e xs (o * P.cellsOf e)).run P w = .ok (.agg cs) w ∧ all2 (SSm ρ β) ((l.drop (o * k)).take k) cs.toList := by
      intro l xs hl hln
      have hp : partS te l (o * k) = some (.agg ((l.drop (o * k)).take k)) := by
        unfold partS
        rw [if_pos hrow, hk, if_pos (by simp; omega)]
      obtain ⟨v, hv, cs, rfl, hcs⟩ := run_part (w := w) hue hse hp hl
      rw [hce]
      exact ⟨cs, hv, hcs⟩
    obtain ⟨cx, hx1, hx2⟩ := part1 hl hln
    obtain ⟨cy, hy1, hy2⟩ := part1 hm hmn
    have hlen : ((l.drop (o * k)).take k).length = k := by simp; omega
    have he : (Op.equalIn (d + 2) e (.agg cx) (.agg cy)).run P w = .ok (i1'.all fun n => (ρ n).gb) w := by
      rw [run_equalIn_array w (d + 1) cx cy (by rw [hue, hd1]) hif, List.range_eq_range']
      have := eqItems_ok (w := w) (d := d) (xs := cx) (ys := cy) huf hs hcf _ _ 0 d1 i1' e1 (fun x hx => hd x (by simp [hx])) (all_sub hf _ _) (by simpa using hx2) (by simpa using hy2)
      rw [hlen] at this
      exact this
    have ih := eqRows_ok (d := d) hue hse hd1 hk huf hs hif hcf hce hl hm hf n (o + 1) d2 i2 (by omega) (by omega) e2 (fun x hx => hd x (by simp [hx]))
    simp only [List.range'_succ, Op.eqItems, Sem.run_bind, hx1, hy1, he, Result.andThen_ok]
    cases hr : (i1'.all fun n => (ρ n).gb) with
    | false => simp [List.all_append, hr]
    | true => simp [List.all_append, hr]; simpa using ih

theorem aggEq_ok (hT : TabOK P TB) {op : BinOp} {t : TypeId} {l m : List SS} {ds : List Df} {s : SS} {va vb : Value} (h : aggEq TB op t l m = some (ds, s)) (hd : ∀ d ∈ ds, ρ d.id = d.sem Φ ρ) (ha : SVm ρ β (.p (.agg l)) va) (hb : SVm ρ β (.p (.agg m)) vb) :
    (∃ v, (binOp op t va vb).run P w = .ok v w ∧ SSm ρ β s v) ∧ ∀ X Y, (eqGuard op t X Y va vb).run P w = .ok () w := by
  unfold aggEq at h
  cases ht : TB t with
  | none => rw [ht] at h; cases h
  | some ti =>
    rw [ht] at h
    simp only at h
    cases hdesc : arrayD ti.desc with
    | none => rw [hdesc] at h; cases h
    | some ne =>
      obtain ⟨n, e⟩ := ne
      rw [hdesc] at h
      simp only at h
      cases he : TB e with
      | none => rw [he] at h; cases h
      | some te =>
        rw [he] at h
        simp only at h
        obtain ⟨hu, _, _⟩ := hT _ _ ht
        obtain ⟨hue, hse, _⟩ := hT _ _ he
        have arr : ∀ {D : TypeDesc} {n : Nat} {e : TypeId}, arrayD D = some (n, e) → D = .array n e := fun {D} {n} {e} h => by
          cases D <;> first | (cases h; done) | (cases h; rfl)
        have hu' : P.underlying t = some (.array n e) := by rw [hu, arr hdesc]
        split at h
        · rename_i ne2 hne2
          unfold rowsEq at h
          rw [hne2] at h
          obtain ⟨k, f⟩ := ne2
          simp only at h
          cases hf : TB f with
          | none => rw [hf] at h; cases h
          | some ts =>
            rw [hf] at h
            simp only at h
            split at h
            case isFalse => cases h
            rename_i hc
            simp only [Bool.and_eq_true] at hc
            obtain ⟨hc1, hc2, hc3, hc4, hc5, hc6⟩ := hc
            obtain ⟨huf, hsf, _⟩ := hT _ _ hf
            have hk := Nat.eq_of_beq_eq_true hc3
            have hd1 := arr hne2
            obtain ⟨ie, hie⟩ : ∃ ie, P.info? e = some ie := by
              cases hq : P.info? e with
              | none => rw [hq] at hse; cases hse
              | some ie => exact ⟨ie, rfl⟩
            obtain ⟨i1, hi1⟩ : ∃ i1, P.info? f = some i1 := by
              cases hq : P.info? f with
              | none => rw [hq] at hsf; cases hsf
              | some ie => exact ⟨ie, rfl⟩
            have hcf : P.cellsOf f = 1 := by
              have : i1.size = ts.size := by simpa [hi1] using hsf
              simp [Program.cellsOf, hi1, this, Nat.eq_of_beq_eq_true hc2]
            have hce : P.cellsOf e = k := by
              have : ie.size = te.size := by simpa [hie] using hse
              simp [Program.cellsOf, hie, this, hk]
            obtain ⟨xs, rfl, hxs⟩ := ha
            obtain ⟨ys, rfl, hys⟩ := hb
            split at h
            case h_2 => cases h
            rename_i ds' ids hels
            have h4 := Nat.eq_of_beq_eq_true hc4
            have h5 := Nat.eq_of_beq_eq_true hc5
            have hrun : ∀ (_ : ∀ x ∈ ds', ρ x.id = x.sem Φ ρ), (Op.equalIn 10000 t (.agg xs) (.agg ys)).run P w = .ok (ids.all fun n => (ρ n).gb) w := fun hd' => by
              rw [run_equalIn_array w 9999 xs ys hu' hie, List.range_eq_range']
              exact eqRows_ok (d := 9997) hue hse hd1 hk huf hc1 hi1 hcf hce hxs hys hc6 n 0 ds' ids (by omega) (by omega) hels hd'
            have hguard : ∀ X Y, (eqGuard op t X Y (.agg xs) (.agg ys)).run P w = .ok () w := fun X Y => by
              refine run_eqGuard_agg w op t X Y xs ys ?_
              exact guard_rows hu' (by rw [hue, hd1]) huf hc1
            split at h
            · cases h
              refine ⟨⟨_, ?_, allOf_ok fun x hx => hd x (by simp [hx])⟩, hguard⟩
              rw [run_eql_struct, hrun (fun x hx => hd x (by simp [hx]))]
              rfl
            · cases h
              refine ⟨⟨_, ?_, notS_ok (allOf_ok fun x hx => hd x (by simp [hx]))⟩, hguard⟩
              rw [run_neq_struct, hrun (fun x hx => hd x (by simp [hx]))]
              rfl
            · cases h
        split at h
        case isFalse => cases h
        rename_i hc
        simp only [Bool.and_eq_true] at hc
        obtain ⟨hc1, hc2, hc3, hc4⟩ := hc
        obtain ⟨ie, hie⟩ : ∃ ie, P.info? e = some ie := by
          cases hq : P.info? e with
          | none => rw [hq] at hse; cases hse
          | some ie => exact ⟨ie, rfl⟩
        have hcell : P.cellsOf e = 1 := by
          have : ie.size = te.size := by simpa [hie] using hse
          simp [Program.cellsOf, hie, this, Nat.eq_of_beq_eq_true hc2]
        obtain ⟨xs, rfl, hxs⟩ := ha
        obtain ⟨ys, rfl, hys⟩ := hb
        split at h
        case h_2 => cases h
        rename_i ds' ids hels
        have hrun : ∀ (_ : ∀ x ∈ ds', ρ x.id = x.sem Φ ρ), (Op.equalIn 10000 t (.agg xs) (.agg ys)).run P w = .ok (ids.all fun n => (ρ n).gb) w := fun hd' => by
          rw [run_equalIn_array w 9999 xs ys hu' hie, List.range_eq_range', ← Nat.eq_of_beq_eq_true hc3]
          exact eqItems_ok (d := 9998) hue hc1 hcell l m 0 ds' ids hels hd' hc4 (by simpa using hxs) (by simpa using hys)
        have hguard : ∀ X Y, (eqGuard op t X Y (.agg xs) (.agg ys)).run P w = .ok () w := fun X Y => by
          refine run_eqGuard_agg w op t X Y xs ys ?_
          exact guard_scal hu' hue hc1
        split at h
        · cases h
          refine ⟨⟨_, ?_, allOf_ok fun x hx => hd x (by simp [hx])⟩, hguard⟩
          rw [run_eql_struct, hrun (fun x hx => hd x (by simp [hx]))]
          rfl
        · cases h
          refine ⟨⟨_, ?_, notS_ok (allOf_ok fun x hx => hd x (by simp [hx]))⟩, hguard⟩
          rw [run_neq_struct, hrun (fun x hx => hd x (by simp [hx]))]
          rfl
        · cases h

theorem pureOp_ok (hT : TabOK P TB) {o : Oper} {ev : Operand → SV} {cv : Operand → Value} {ds : List Df} {rq : List (Nat × Nat)} {r : SV} (H : HeapAt ρ β heap w) (h : pureOp TB o.op ev heap = some (ds, rq, r))
    (hd : ∀ d ∈ ds, ρ d.id = d.sem Φ ρ) (hq : ∀ q ∈ rq, Asked q.1 (ρ q.2)) (hev : ∀ x, SVm ρ β (ev x) (cv x)) :
    ∃ v n, (execOp cv o).run P w = .ok (.value v) (w.drewN n) ∧ SVm ρ β r v := by
  unfold pureOp at h
  split at h
  · rename_i x hop
    cases h
    exact ⟨cv x, 0, by simp [execOp, hop, World.drewN], hev x⟩
  · rename_i x hop
    cases h
    exact ⟨cv x, 0, by simp [execOp, hop, World.drewN], hev x⟩
  · rename_i t x hop
    simp only [Option.map_eq_some_iff] at h
    obtain ⟨r', hr', h⟩ := h
    cases h
    obtain ⟨v, hv, hm⟩ := loadS_ok hT H hr' (hev x)
    exact ⟨v, 0, by simp [execOp, hop, hv, Result.andThen, World.drewN], hm⟩
  · rename_i t x i hop
    split at h
    · rename_i r' hr'
      cases h
      obtain ⟨v, hv, hm⟩ := indexAddrS_ok (w := w) hT hr' (hev x) (hev i)
      exact ⟨v, 0, by simp [execOp, hop, hv, Result.andThen, World.drewN], hm⟩
    · simp only [Option.map_eq_some_iff] at h
      obtain ⟨r', hr', h⟩ := h
      cases h
      obtain ⟨v, hv, hm⟩ := indexSl_ok (w := w) hT hr' (hev x) (hev i)
      exact ⟨v, 0, by simp [execOp, hop, hv, Result.andThen, World.drewN], hm⟩
  · rename_i t x f hop
    simp only [Option.map_eq_some_iff] at h
    obtain ⟨r', hr', h⟩ := h
    cases h
    obtain ⟨v, hv, hm⟩ := fieldAddrS_ok (w := w) hT hr' (hev x)
    exact ⟨v, 0, by simp [execOp, hop, hv, Result.andThen, World.drewN], hm⟩
  · rename_i t x i hop
    simp only [Option.map_eq_some_iff] at h
    obtain ⟨r', hr', h⟩ := h
    cases h
    obtain ⟨v, hv, hm⟩ := indexS_ok (w := w) hT hr' (hev x) (hev i)
    exact ⟨v, 0, by simp [execOp, hop, hv, Result.andThen, World.drewN], hm⟩
  · rename_i t x f hop
    simp only [Option.map_eq_some_iff] at h
    obtain ⟨r', hr', h⟩ := h
    cases h
    obtain ⟨v, hv, hm⟩ := fieldS_ok (w := w) hT hr' (hev x)
    exact ⟨v, 0, by simp [execOp, hop, hv, Result.andThen, World.drewN], hm⟩
  · rename_i x i hop
    have hx := hev x
    split at h
    · rename_i l hl
      rw [hl] at hx
      obtain ⟨cs, hc, ha⟩ := hx
      simp only [Option.map_eq_some_iff] at h
      obtain ⟨r', hr', h⟩ := h
      cases h
      obtain ⟨v, hv, hm⟩ := ha.get? i hr'
      have hv' : cs[i]? = some v := by simpa using hv
      exact ⟨v, 0, by simp [execOp, hop, hc, Instr.extract, hv', Result.andThen, World.drewN], hm⟩
    · cases h
  · rename_i op t x y t2 hop
    have hx := hev x
    have hy := hev y
    split at h
    · rename_i a b ha hb
      rw [ha] at hx
      rw [hb] at hy
      split at h
      · rename_i r' hr'
        cases h
        obtain ⟨⟨v, hv, hm⟩, hg⟩ := boolS_ok (w := w) hT (show boolS TB op t a b = some (r'.1, r'.2) from hr') hd hx hy
        exact ⟨v, 0, by simp [execOp, hop, hg x y, hv, Result.andThen, World.drewN], hm⟩
      split at h
      · rename_i r' hr'
        cases h
        obtain ⟨⟨v, n, hv, hm⟩, hg⟩ := binS_ok (P := P) (t := t) (w := w) (show binS op a b = some (r'.1, r'.2) from hr') hd hx hy
        exact ⟨v, n, by simp [execOp, hop, hg x y, hv, Result.andThen], hm⟩
      simp only [Option.map_eq_some_iff] at h
      obtain ⟨r', hr', h⟩ := h
      cases h
      obtain ⟨⟨v, n, hv, hm⟩, hg⟩ := binI_ok (P := P) (t := t) (w := w) (show binI op a b = some (r'.1, r'.2.1, r'.2.2) from hr') hd hq hx hy
      exact ⟨v, n, by simp [execOp, hop, hg x y, hv, Result.andThen], hm⟩
    · rename_i l m hl hm'
      rw [hl] at hx
      rw [hm'] at hy
      simp only [Option.map_eq_some_iff] at h
      obtain ⟨r', hr', h⟩ := h
      cases h
      obtain ⟨⟨v, hv, hm⟩, hg⟩ := aggEq_ok (w := w) hT (show aggEq TB op t l m = some (r'.1, r'.2) from hr') hd hx hy
      exact ⟨v, 0, by simp [execOp, hop, hg x y, hv, Result.andThen, World.drewN], hm⟩
    · cases h
  · rename_i op t x hop
    obtain ⟨v, hv, hm⟩ := unS_ok (P := P) (w := w) h hd (hev x)
    exact ⟨v, 0, by simp [execOp, hop, hv, Result.andThen, World.drewN], hm⟩
  · rename_i src dst x hop
    obtain ⟨v, n, hv, hm⟩ := convS_ok (w := w) hT h hd hq (hev x)
    exact ⟨v, n, by simp [execOp, hop, hv, Result.andThen], hm⟩
  · rename_i t parts hop
    split at h
    case h_2 => cases h
    rename_i ti hti
    split at h
    case h_2 => cases h
    rename_i d z hz
    split at h
    case h_2 => cases h
    rename_i pl hpl
    simp only [Option.map_eq_some_iff] at h
    obtain ⟨l, hl, h⟩ := h
    cases h
    obtain ⟨hu, hs, hzero⟩ := hT _ _ hti
    have hzm := svOf_m ρ β ti.zero
    rw [hz] at hzm
    obtain ⟨zc, hzc, hza⟩ := hzm
    obtain ⟨it, hit⟩ : ∃ it, P.info? t = some it := by
      cases hq : P.info? t with
      | none => simp [hq] at hs
      | some it => exact ⟨it, rfl⟩
    have hz' : it.zero = some ti.zero := by simpa [hit] using hzero
    have hb : ∃ cs', P.built t (parts.map fun (i, x) => (i, cv x)).toList = some cs' ∧ all2 (SSm ρ β) l cs'.toList := by
      unfold placeS at hpl
      split at hpl
      · rename_i n e hd
        split at hpl
        case h_2 => cases hpl
        rename_i te hte
        cases hpl
        obtain ⟨_, hse, _⟩ := hT _ _ hte
        cases hqe : P.info? e with
        | none => simp [hqe] at hse
        | some ie =>
          have hs' : ie.size = te.size := by simpa [hqe] using hse
          obtain ⟨cs', hf, hm⟩ := fillS_ok (place' := fun i => some (i * ie.size, ie.size)) (fun i => by rw [hs']) hev parts.toList z zc l hza hl
          refine ⟨cs', ?_, hm⟩
          unfold Program.built
          rw [hu, hd, hit]
          simp only [hz', hzc, hqe, Value.cells]
          rw [← hf]
          simp
      · rename_i fs hd
        split at hpl
        case h_2 => cases hpl
        rename_i ls hls
        cases hpl
        obtain ⟨cs', hf, hm⟩ := fillS_ok (place' := fun i => ls.toArray[i]?) (fun i => by simp) hev parts.toList z zc l hza hl
        refine ⟨cs', ?_, hm⟩
        unfold Program.built
        rw [hu, hd, hit]
        simp only [hz', hzc, placesS_ok hT hls, Value.cells]
        rw [← hf]
        simp
      · cases hpl
    obtain ⟨cs', hb, hm⟩ := hb
    have hr := run_build w t (parts.map fun (i, x) => (i, cv x)) cs' hb
    refine ⟨.agg cs', 0, ?_, cs', rfl, hm⟩
    simp only [execOp, hop]
    rw [Sem.run_bind, hr]
    rfl
  · rename_i x hop
    have hx := hev x
    split at h
    · rename_i b off hl
      cases h
      rw [hl] at hx
      obtain ⟨p, hp, hv⟩ := hx
      exact ⟨cv x, 0, by simp [execOp, hop, hv, World.drewN], p, hp, hv⟩
    · rename_i f a c hl
      cases h
      rw [hl] at hx
      have hv : cv x = _ := hx
      exact ⟨cv x, 0, by simp [execOp, hop, hv, World.drewN], hv⟩
    · rename_i f a c hl
      cases h
      rw [hl] at hx
      obtain ⟨fs, cs, hv, hm⟩ := hx
      exact ⟨cv x, 0, by simp [execOp, hop, hv, World.drewN], fs, cs, hv, hm⟩
    · cases h
  · rename_i t x lo hi hop
    simp only [Option.map_eq_some_iff] at h
    obtain ⟨r', hr', h⟩ := h
    cases h
    obtain ⟨v, hv, hm⟩ := sliceS_ok (w := w) hT hev hr'
    exact ⟨v, 0, by simp [execOp, hop, hv, Result.andThen, World.drewN], hm⟩
  · rename_i t x hop
    simp only [Option.map_eq_some_iff] at h
    obtain ⟨r', hr', h⟩ := h
    cases h
    obtain ⟨v, hv, hm⟩ := arrayS_ok (w := w) hT hr' (hev x)
    exact ⟨v, 0, by simp [execOp, hop, hv, Result.andThen, World.drewN], hm⟩
  · rename_i g a c hop
    split at h
    · rename_i f l hf hl
      cases h
      have evs : ∀ l : List Operand, all2 (SVm ρ β) (l.map ev) (l.map cv) := fun l => by
        induction l with
        | nil => trivial
        | cons x l ih => exact ⟨hev x, ih⟩
      refine ⟨.func (.func g) (a.map cv) (c.map cv), 0, by simp [execOp, hop, Instr.makeFunc, World.drewN], _, _, rfl, ?_, ?_⟩
      · simpa using spsOf_ok hf (evs a.toList)
      · simpa using spsOf_ok hl (evs c.toList)
    · cases h
  · cases h

end
end Go.Proofs.Ytcopccniijkceaa
