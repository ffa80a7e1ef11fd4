/- The heading of one who follows a way. The heading of one who follows a way, as the program has it. One who follows a way, as the document tells it. One who follows a way, as the program has it. The law on one who follows a way. No condition. -/
import Derived.Test.YtejljfejajckoaaAhm
import Derived.Test.YtejljfejajckoaaOom
import Derived.Test.YtejljfejajckoaaGPose
import Derived.Test.YtejljfejajckoaaMx
import Derived.Deep.CutRange
import Derived.Deep.RegionHeld
namespace Go.Proofs.Ytejljfejajckoaa
open Go Go.ChangeShapes Ieee Go.WideShapes Go.RowKit
set_option linter.unusedVariables false
set_option linter.unusedSimpArgs false


def gz (r : List NV) : Option Nat := (r.getD 2 (.i 0)).gf
theorem half_m : single.read 3204448256 = .number true 8388608 (-24) := by decide
theorem half_p : single.read 1056964608 = .number false 8388608 (-24) := by decide
theorem can_hm : can .f32 3204448256 = some 3204448256 := by rw [can32, half_m]; rfl
theorem can_hp : can .f32 1056964608 = some 1056964608 := by rw [can32, half_p]; rfl
def ltH (o : Option Nat) : Bool := ford .f32 o (can .f32 3204448256) == some .lt
def gtH (o : Option Nat) : Bool := ford .f32 o (can .f32 1056964608) == some .gt
def maxH (o : Option Nat) : Option Nat := if ltH o then can .f32 3204448256 else o
def minH (o : Option Nat) : Option Nat := if gtH o then can .f32 1056964608 else o
theorem not_bothH (o : Option Nat) (h1 : ltH o = true) (h2 : gtH o = true) : False := by
  unfold ltH at h1
  unfold gtH at h2
  rw [can_hm] at h1
  rw [can_hp] at h2
  cases o with
  | none => cases h1
  | some b =>
    have h1 : (single.order b 3204448256 == some Ordering.lt) = true := h1
    have h2 : (single.order b 1056964608 == some Ordering.gt) = true := h2
    unfold Format.order at h1 h2
    rw [half_m] at h1
    rw [half_p] at h2
    cases e : single.read b with
    | nan => rw [e] at h1; cases h1
    | infinity s => rw [e] at h1 h2; cases s <;> first | (cases h1; done) | cases h2
    | number s m p =>
      rw [e] at h1 h2
      simp only [Datum.order] at h1 h2
      have l1 := Int.compare_eq_lt.1 (Option.some.inj (eq_of_beq h1))
      have l2 := Int.compare_eq_gt.1 (Option.some.inj (eq_of_beq h2))
      have p1 : signed true 8388608 (-24 - min p (-24)).toNat = -((8388608 * 2 ^ (-24 - min p (-24)).toNat : Nat) : Int) := by unfold signed; rw [shl_eq]; rfl
      have p2 : signed false 8388608 (-24 - min p (-24)).toNat = ((8388608 * 2 ^ (-24 - min p (-24)).toNat : Nat) : Int) := by unfold signed; rw [shl_eq]; rfl
      rw [p1] at l1
      rw [p2] at l2
      omega
theorem gtH_m : gtH (can .f32 3204448256) = false := by unfold gtH; rw [can_hm, can_hp]; decide
theorem ltH_p : ltH (can .f32 1056964608) = false := by unfold ltH; rw [can_hm, can_hp]; decide
def clampO (o : Option Nat) : Option Nat := minH (maxH o)
theorem clamp_lt {o : Option Nat} (h : ltH o = true) : clampO o = can .f32 3204448256 := by
  unfold clampO maxH minH
  rw [if_pos h, gtH_m, if_neg (by decide)]
theorem clamp_gt {o : Option Nat} (h : gtH o = true) : clampO o = can .f32 1056964608 := by
  unfold clampO maxH minH
  cases hl : ltH o with
  | true => exact (not_bothH o hl h).elim
  | false =>
    simp only [Bool.false_eq_true, if_false]
    rw [if_pos h]
theorem clamp_in {o : Option Nat} (h1 : ltH o = false) (h2 : gtH o = false) : clampO o = o := by
  unfold clampO maxH minH
  simp only [h1, h2, Bool.false_eq_true, if_false]
theorem lth_of (q : Nat) : (FloatKind.f32.format.order q 3204448256 == some Ordering.lt) = ltH (can .f32 q) := by rw [order_can]; rfl
theorem gth_of (q : Nat) : (FloatKind.f32.format.order q 1056964608 == some Ordering.gt) = gtH (can .f32 q) := by rw [order_can]; rfl

theorem mm_cut (k : FloatKind) (m : Bool) (x y t : Nat) : Question.cut (.nanMinMax k m x y) t = Question.cut (.nanBits k x y) t := by cases k <;> rfl

theorem run_maxH {P : Program} (w : World) (ts : Array TypeId) (t : TypeId) (x : Nat) (hx : x < 2 ^ 32) : ∃ r n, (Builtin.max_ ts t #[.float .f32 x, .float .f32 3204448256]).run P w = .ok (.float .f32 r) (w.drewN n) ∧ FIs .f32 r (maxH (can .f32 x)) := by
  have e := lth_of x
  unfold maxH
  rw [← e]
  cases ho : FloatKind.f32.format.order x 3204448256 with
  | none =>
    refine ⟨Question.cut (.nanMinMax .f32 true x 3204448256) (w.tape w.drawn (.nanMinMax .f32 true x 3204448256)), 1, ?_, ?_⟩
    · simp [Builtin.max_, Builtin.max2, ho, choose, Question.forced, Sem.run, World.drewN]
    · rw [mm_cut]
      refine ⟨?_, cut_lt _ _ _ _⟩
      rw [can_nan (cut_is_nan _ _ _ _)]
      rw [order_can, can_hm] at ho
      cases hc : can .f32 x with
      | none => rfl
      | some b =>
        rw [hc] at ho
        have ho : (single.read b).order (single.read 3204448256) = none := ho
        rw [half_m] at ho
        obtain ⟨rfl, hn⟩ := can_some hc
        have hn : (single.read b).isNaN = false := hn
        cases hr : single.read b with
        | nan => rw [hr] at hn; cases hn
        | infinity s => rw [hr] at ho; cases ho
        | number s m p => rw [hr] at ho; cases ho
  | some o =>
    cases o with
    | lt => exact ⟨3204448256, 0, by simp [Builtin.max_, Builtin.max2, ho]; rfl, by rw [if_pos (by decide)]; exact FIs.self (by decide)⟩
    | gt => exact ⟨x, 0, by simp [Builtin.max_, Builtin.max2, ho]; rfl, by rw [if_neg (by decide)]; exact FIs.self hx⟩
    | eq =>
      have e := order_bits single (by decide) hx (show 3204448256 < 2 ^ single.width by decide) (Or.inl (by decide)) ho
      subst e
      exact ⟨3204448256, 0, by simp [Builtin.max_, Builtin.max2, ho]; rfl, by rw [if_neg (by decide)]; exact FIs.self hx⟩

theorem run_minH {P : Program} (w : World) (ts : Array TypeId) (t : TypeId) (x : Nat) (hx : x < 2 ^ 32) : ∃ r n, (Builtin.min_ ts t #[.float .f32 x, .float .f32 1056964608]).run P w = .ok (.float .f32 r) (w.drewN n) ∧ FIs .f32 r (minH (can .f32 x)) := by
  have e := gth_of x
  unfold minH
  rw [← e]
  cases ho : FloatKind.f32.format.order x 1056964608 with
  | none =>
    refine ⟨Question.cut (.nanMinMax .f32 false x 1056964608) (w.tape w.drawn (.nanMinMax .f32 false x 1056964608)), 1, ?_, ?_⟩
    · simp [Builtin.min_, Builtin.min2, ho, choose, Question.forced, Sem.run, World.drewN]
    · rw [mm_cut]
      refine ⟨?_, cut_lt _ _ _ _⟩
      rw [can_nan (cut_is_nan _ _ _ _)]
      rw [order_can, can_hp] at ho
      cases hc : can .f32 x with
      | none => rfl
      | some b =>
        rw [hc] at ho
        have ho : (single.read b).order (single.read 1056964608) = none := ho
        rw [half_p] at ho
        obtain ⟨rfl, hn⟩ := can_some hc
        have hn : (single.read b).isNaN = false := hn
        cases hr : single.read b with
        | nan => rw [hr] at hn; cases hn
        | infinity s => rw [hr] at ho; cases ho
        | number s m p => rw [hr] at ho; cases ho
  | some o =>
    cases o with
    | gt => exact ⟨1056964608, 0, by simp [Builtin.min_, Builtin.min2, ho]; rfl, by rw [if_pos (by decide)]; exact FIs.self (by decide)⟩
    | lt => exact ⟨x, 0, by simp [Builtin.min_, Builtin.min2, ho]; rfl, by rw [if_neg (by decide)]; exact FIs.self hx⟩
    | eq =>
      have e := order_bits single (by decide) hx (show 1056964608 < 2 ^ single.width by decide) (Or.inl (by decide)) ho
      subst e
      exact ⟨1056964608, 0, by simp [Builtin.min_, Builtin.min2, ho]; rfl, by rw [if_neg (by decide)]; exact FIs.self hx⟩

theorem wpList_mm {P : Program} {w : World} {ops : Array Oper} {rest : List Oper} {o : Oper} {a : Act} {Q : Exit → Act → World → Prop} (hg : o.guard = none) (F : Option Nat → Option Nat) (bx : Nat)
    (hb : ∃ r n, (execOp a.eval o).run P w = .ok (.value (.float .f32 r)) (w.drewN n) ∧ FIs .f32 r (F (can .f32 bx)))
    (hK : ∀ r n, FIs .f32 r (F (can .f32 bx)) → wpList P ops Q rest (a.put o.dst (.float .f32 r)) (w.drewN n)) : wpList P ops Q (o :: rest) a w := by
  refine wpList_plain hg fun K hK' => ?_
  obtain ⟨r, n, hrun, hr⟩ := hb
  unfold Oper.wp
  rw [hrun]
  exact hK' _ _ (hK r n hr)

theorem exec_maxH {P : Program} {ev : Operand → Value} {o : Oper} (x y : Operand) (ts : Array TypeId) (hop : o.op = Op.call { callee := Callee.builtin Builtin.max, args := #[x, y], argTypes := ts }) (bx : Nat) (hx : ev x = .float .f32 bx) (hy : ev y = .float .f32 3204448256) (hb : bx < 2 ^ 32) (w : World) :
    ∃ r n, (execOp ev o).run P w = .ok (.value (.float .f32 r)) (w.drewN n) ∧ FIs .f32 r (maxH (can .f32 bx)) := by
  obtain ⟨r, n, h, f⟩ := run_maxH (P := P) w ts o.type bx hb
  refine ⟨r, n, ?_, f⟩
  simp [execOp, hop, hx, hy, h, go_sem]
theorem exec_minH {P : Program} {ev : Operand → Value} {o : Oper} (x y : Operand) (ts : Array TypeId) (hop : o.op = Op.call { callee := Callee.builtin Builtin.min, args := #[x, y], argTypes := ts }) (bx : Nat) (hx : ev x = .float .f32 bx) (hy : ev y = .float .f32 1056964608) (hb : bx < 2 ^ 32) (w : World) :
    ∃ r n, (execOp ev o).run P w = .ok (.value (.float .f32 r)) (w.drewN n) ∧ FIs .f32 r (minH (can .f32 bx)) := by
  obtain ⟨r, n, h, f⟩ := run_minH (P := P) w ts o.type bx hb
  refine ⟨r, n, ?_, f⟩
  simp [execOp, hop, hx, hy, h, go_sem]

/-! ### Contracts -/

theorem calls_f1 {P : Program} {Φ : Syms} {e : Opq} (h : OpqOK P Φ e) (h0 : e.ext = 0) (h1 : e.same = false) (ha : e.args = [.one (.f .f32)]) (hr : e.res = .p (.one (.f .f32))) (y : Nat) (hy : y < 2 ^ 32) (w : World) :
    Calls P e.f #[.float .f32 y] w fun en w' => ∃ v, en = .returned v ∧ (∃ x, v = .float .f32 x ∧ FIs .f32 x (Φ (e.sym * 64 + 0) [.f (can .f32 y)]).gf) ∧ Stays w w' := by
  have := opq_symR h h0 h1 #[.float .f32 y] [.f (can .f32 y)] w (by rw [ha]; exact ⟨[.f (can .f32 y)], [], rfl, ⟨.f (can .f32 y), rfl, y, rfl, FIs.self hy⟩, rfl⟩)
  refine this.mono ?_
  rintro en w' ⟨v', rfl, hm, hs⟩
  rw [hr] at hm
  obtain ⟨n, hn, x, hx, hf⟩ := hm
  cases hn
  exact ⟨v', rfl, ⟨x, hx, hf⟩, hs⟩

theorem calls_f2 {P : Program} {Φ : Syms} {e : Opq} (h : OpqOK P Φ e) (h0 : e.ext = 0) (h1 : e.same = false) (ha : e.args = [.one (.f .f32), .one (.f .f32)]) (hr : e.res = .p (.one (.f .f32))) (y z : Nat) (hy : y < 2 ^ 32) (hz : z < 2 ^ 32) (w : World) :
    Calls P e.f #[.float .f32 y, .float .f32 z] w fun en w' => ∃ v, en = .returned v ∧ (∃ x, v = .float .f32 x ∧ FIs .f32 x (Φ (e.sym * 64 + 0) [.f (can .f32 y), .f (can .f32 z)]).gf) ∧ Stays w w' := by
  have := opq_symR h h0 h1 #[.float .f32 y, .float .f32 z] [.f (can .f32 y), .f (can .f32 z)] w (by rw [ha]; exact ⟨[.f (can .f32 y)], [.f (can .f32 z)], rfl, ⟨.f (can .f32 y), rfl, y, rfl, FIs.self hy⟩, [.f (can .f32 z)], [], rfl, ⟨.f (can .f32 z), rfl, z, rfl, FIs.self hz⟩, rfl⟩)
  refine this.mono ?_
  rintro en w' ⟨v', rfl, hm, hs⟩
  rw [hr] at hm
  obtain ⟨n, hn, x, hx, hf⟩ := hm
  cases hn
  exact ⟨v', rfl, ⟨x, hx, hf⟩, hs⟩

theorem calls_rowBF {P : Program} {Φ : Syms} {e : Opq} {K : List Kd} (h : OpqOK P Φ e) (h0 : e.ext = 0) (h1 : e.same = false) (ha : e.args = [.agg K]) (hr : e.res = .p (.one .b)) (v : Value) (r : List NV) (w : World) (hv : ShM (.agg K) v r) :
    Calls P e.f #[v] w fun en w' => en = .returned (.bool (Φ (e.sym * 64 + 0) r).gb) ∧ Stays w w' := by
  have := opq_symR h h0 h1 #[v] r w (by rw [ha]; exact ⟨r, [], by simp, hv, rfl⟩)
  refine this.mono ?_
  rintro en w' ⟨v', rfl, hm, hs⟩
  rw [hr] at hm
  obtain ⟨n, hn, hb⟩ := hm
  cases hn
  exact ⟨congrArg _ hb, hs⟩

noncomputable def wrapO (o : Option Nat) : Option Nat := (oWrap.Φ (10 * 64 + 0) [.f o]).gf
noncomputable def angO (y x : Option Nat) : Option Nat := (oAngle.Φ (11 * 64 + 0) [.f y, .f x]).gf
noncomputable def finPo (a b c : Option Nat) : Bool := (oFpo.Φ (13 * 64 + 0) [.f a, .f b, .f c]).gb
noncomputable def comO (p q : List NV) : List NV := fun2 oCom.Φ 12 3 KPose p q

def FIsV (o : Option Nat) (v : Value) : Prop := ∃ x, v = .float .f32 x ∧ FIs .f32 x o
theorem c_l02Wrap (y : Nat) (hy : y < 2 ^ 32) (w : World) : Calls Try.prog 137 #[.float .f32 y] w fun e w' => ∃ v, e = .returned v ∧ FIsV (wrapO (can .f32 y)) v ∧ Stays w w' := calls_f1 oWrap.okS rfl rfl rfl rfl y hy w
theorem c_implWrap (y : Nat) (hy : y < 2 ^ 32) (w : World) : Calls Try.prog 142 #[.float .f32 y] w fun e w' => ∃ v, e = .returned v ∧ FIsV (wrapO (can .f32 y)) v ∧ Stays w w' := calls_f1 oWrap.okI rfl rfl rfl rfl y hy w
theorem c_l02Angle (y z : Nat) (hy : y < 2 ^ 32) (hz : z < 2 ^ 32) (w : World) : Calls Try.prog 138 #[.float .f32 y, .float .f32 z] w fun e w' => ∃ v, e = .returned v ∧ FIsV (angO (can .f32 y) (can .f32 z)) v ∧ Stays w w' := calls_f2 oAngle.okS rfl rfl rfl rfl y z hy hz w
theorem c_implAngle (y z : Nat) (hy : y < 2 ^ 32) (hz : z < 2 ^ 32) (w : World) : Calls Try.prog 143 #[.float .f32 y, .float .f32 z] w fun e w' => ∃ v, e = .returned v ∧ FIsV (angO (can .f32 y) (can .f32 z)) v ∧ Stays w w' := calls_f2 oAngle.okI rfl rfl rfl rfl y z hy hz w
theorem poRow3 {a b c : Nat} (ha : a < 2 ^ 32) (hb : b < 2 ^ 32) (hc : c < 2 ^ 32) : ShM (.agg KPose) (.agg #[.float .f32 a, .float .f32 b, .float .f32 c]) [.f (can .f32 a), .f (can .f32 b), .f (can .f32 c)] := ⟨_, rfl, ⟨a, rfl, FIs.self ha⟩, ⟨b, rfl, FIs.self hb⟩, ⟨c, rfl, FIs.self hc⟩, trivial⟩
theorem c_finS (a b c : Nat) (ha : a < 2 ^ 32) (hb : b < 2 ^ 32) (hc : c < 2 ^ 32) (w : World) : Calls Try.prog 80 #[.agg #[.float .f32 a, .float .f32 b, .float .f32 c]] w fun e w' => e = .returned (.bool (finPo (can .f32 a) (can .f32 b) (can .f32 c))) ∧ Stays w w' := calls_rowBF oFpo.okS rfl rfl rfl rfl _ _ w (poRow3 ha hb hc)
theorem c_finI (a b c : Nat) (ha : a < 2 ^ 32) (hb : b < 2 ^ 32) (hc : c < 2 ^ 32) (w : World) : Calls Try.prog 85 #[.agg #[.float .f32 a, .float .f32 b, .float .f32 c]] w fun e w' => e = .returned (.bool (finPo (can .f32 a) (can .f32 b) (can .f32 c))) ∧ Stays w w' := calls_rowBF oFpo.okI rfl rfl rfl rfl _ _ w (poRow3 ha hb hc)
theorem po_cells {cs : List Value} {r : List NV} (h : KMs KPose cs r) : ∃ x y z, cs = [.float .f32 x, .float .f32 y, .float .f32 z] ∧ FIs .f32 x (gx r) ∧ FIs .f32 y (gy r) ∧ FIs .f32 z (gz r) := by
  have hr := KMs_rlen h
  have hl := KMs_len h
  match cs, r, hl, hr, h with
  | [_, _, _], [n0, n1, n2], _, _, ⟨⟨x, hx, hfx⟩, ⟨y, hy, hfy⟩, ⟨z, hz, hfz⟩, _⟩ =>
    subst hx hy hz
    exact ⟨x, y, z, rfl, hfx, hfy, hfz⟩
def PoV (res : List NV) (v : Value) : Prop := ∃ x y z, v = .agg #[.float .f32 x, .float .f32 y, .float .f32 z] ∧ FIs .f32 x (gx res) ∧ FIs .f32 y (gy res) ∧ FIs .f32 z (gz res)
theorem po_of {v : Value} {r : List NV} (h : ShM (.agg KPose) v r) : PoV r v := by
  obtain ⟨cs, rfl, hk⟩ := h
  obtain ⟨x, y, z, e, fx, fy, fz⟩ := po_cells hk
  refine ⟨x, y, z, ?_, fx, fy, fz⟩
  obtain ⟨l⟩ := cs
  exact congrArg (fun l => Value.agg (Array.mk l)) e
theorem c_comS (a b c x y z : Nat) (ha : a < 2 ^ 32) (hb : b < 2 ^ 32) (hc : c < 2 ^ 32) (hx : x < 2 ^ 32) (hy : y < 2 ^ 32) (hz : z < 2 ^ 32) (w : World) :
    Calls Try.prog 84 #[.agg #[.float .f32 a, .float .f32 b, .float .f32 c], .agg #[.float .f32 x, .float .f32 y, .float .f32 z]] w fun e w' => ∃ v, e = .returned v ∧ PoV (comO [.f (can .f32 a), .f (can .f32 b), .f (can .f32 c)] [.f (can .f32 x), .f (can .f32 y), .f (can .f32 z)]) v ∧ Stays w w' := by
  refine (calls_row2 (n := 3) oCom.okS rfl rfl rfl rfl rfl _ _ _ _ w (poRow3 ha hb hc) (poRow3 hx hy hz)).mono ?_
  rintro e w' ⟨v, rfl, hv, hs⟩
  exact ⟨v, rfl, po_of hv, hs⟩
theorem c_comI (a b c x y z : Nat) (ha : a < 2 ^ 32) (hb : b < 2 ^ 32) (hc : c < 2 ^ 32) (hx : x < 2 ^ 32) (hy : y < 2 ^ 32) (hz : z < 2 ^ 32) (w : World) :
    Calls Try.prog 88 #[.agg #[.float .f32 a, .float .f32 b, .float .f32 c], .agg #[.float .f32 x, .float .f32 y, .float .f32 z]] w fun e w' => ∃ v, e = .returned v ∧ PoV (comO [.f (can .f32 a), .f (can .f32 b), .f (can .f32 c)] [.f (can .f32 x), .f (can .f32 y), .f (can .f32 z)]) v ∧ Stays w w' := by
  refine (calls_row2 (n := 3) oCom.okI rfl rfl rfl rfl rfl _ _ _ _ w (poRow3 ha hb hc) (poRow3 hx hy hz)).mono ?_
  rintro e w' ⟨v, rfl, hv, hs⟩
  exact ⟨v, rfl, po_of hv, hs⟩

set_option maxRecDepth 100000 in
theorem c_specWrap (y : Nat) (hy : y < 2 ^ 32) (w : World) : Calls Try.prog 82 #[.float .f32 y] w fun e w' => ∃ v, e = .returned v ∧ FIsV (wrapO (can .f32 y)) v ∧ Stays w w' := by
  have k := c_l02Wrap y hy w
  generalize wrapO (can .f32 y) = o at k ⊢
  replace k := Lib.hid k
  go_enter Try.func82, Try.ntmps82
  go_wp2_with fail
  refine k.out.mono ?_
  rintro e w1 ⟨_, rfl, ⟨x, rfl, hx⟩, hb⟩
  replace hx := Lib.hid hx
  go_wp2
  go_ret
  exact ⟨_, rfl, ⟨x, rfl, hx.out⟩, hb⟩
set_option maxRecDepth 100000 in
theorem c_specAngle (y z : Nat) (hy : y < 2 ^ 32) (hz : z < 2 ^ 32) (w : World) : Calls Try.prog 83 #[.float .f32 y, .float .f32 z] w fun e w' => ∃ v, e = .returned v ∧ FIsV (angO (can .f32 y) (can .f32 z)) v ∧ Stays w w' := by
  have k := c_l02Angle y z hy hz w
  generalize angO (can .f32 y) (can .f32 z) = o at k ⊢
  replace k := Lib.hid k
  go_enter Try.func83, Try.ntmps83
  go_wp2_with fail
  refine k.out.mono ?_
  rintro e w1 ⟨_, rfl, ⟨x, rfl, hx⟩, hb⟩
  replace hx := Lib.hid hx
  go_wp2
  go_ret
  exact ⟨_, rfl, ⟨x, rfl, hx.out⟩, hb⟩

/-- What an angle and a wrapped one may be. -/
def awC (F G : FuncId) (f : FuncId) (args : Array Value) (v : Value) : Prop := (f = F → ∀ y z, args = #[.float .f32 y, .float .f32 z] → FIsV (angO (can .f32 y) (can .f32 z)) v) ∧ (f = G → ∀ y, args = #[.float .f32 y] → FIsV (wrapO (can .f32 y)) v)
theorem awC_1 {F G : FuncId} (hne : F ≠ G) {y z : Nat} {v : Value} : awC F G F #[.float .f32 y, .float .f32 z] v ↔ FIsV (angO (can .f32 y) (can .f32 z)) v :=
  ⟨fun h => h.1 rfl _ _ rfl, fun h => ⟨fun _ y' z' e => by cases e; exact h, fun e => absurd e hne⟩⟩
theorem awC_2 {F G : FuncId} (hne : F ≠ G) {y : Nat} {v : Value} : awC F G G #[.float .f32 y] v ↔ FIsV (wrapO (can .f32 y)) v :=
  ⟨fun h => h.2 rfl _ rfl, fun h => ⟨fun e => absurd e.symm hne, fun _ y' e => by cases e; exact h⟩⟩

noncomputable def turnO (pz dx dy : Option Nat) : Option Nat := wrapO (fop .sub .f32 (angO dy dx) pz)
noncomputable def headO (pz dx dy : Option Nat) : Option Nat := if isZ dx && isZ dy then pz else wrapO (fop .add .f32 pz (clampO (turnO pz dx dy)))
noncomputable def foR (px py pz s qx qy : Option Nat) : List NV := comO [.f px, .f py, .f (headO pz (fop .sub .f32 qx px) (fop .sub .f32 qy py))] [.f s, .f (can .f32 0), .f (can .f32 0)]
end Go.Proofs.Ytejljfejajckoaa

namespace Go.Proofs.Ytejljfejajckoaa
open Go Go.ChangeShapes Go.WideShapes Go.RowKit
set_option linter.unusedVariables false
set_option linter.unusedSimpArgs false

set_option maxRecDepth 100000 in
set_option maxHeartbeats 4000000 in
theorem c_headingTo (px py pz qx qy : Nat) (w : World) (hpx : px < 2 ^ 32) (hpy : py < 2 ^ 32) (hpz : pz < 2 ^ 32) (hqx : qx < 2 ^ 32) (hqy : qy < 2 ^ 32) :
    Calls Try.prog 87 #[.agg #[.float .f32 px, .float .f32 py, .float .f32 pz], .agg #[.float .f32 qx, .float .f32 qy]] w fun e w' => ∃ v, e = .returned v ∧ FIsV (headO (can .f32 pz) (fop .sub .f32 (can .f32 qx) (can .f32 px)) (fop .sub .f32 (can .f32 qy) (can .f32 py))) v ∧ Stays w w' := by
  have hst : Stays w ((w.alloc (.cells #[.float .f32 px, .float .f32 py, .float .f32 pz] 52)).alloc (.cells #[.float .f32 qx, .float .f32 qy] 26)) := by (repeat (first | exact Stays.refl _ | (with_reducible refine Stays.drewN ?_ _) | (with_reducible refine Stays.alloc ?_ _) | (with_reducible refine Stays.drew ?_) | (refine Stays.trans ?_ ‹Stays _ _›)))
  have u0 : ((w.alloc (.cells #[.float .f32 px, .float .f32 py, .float .f32 pz] 52)).alloc (.cells #[.float .f32 qx, .float .f32 qy] 26)).heap[w.heap.size]? = some (.cells #[.float .f32 px, .float .f32 py, .float .f32 pz] 52 (0, 0)) := by (repeat (first | (refine heap_top _ _ _ ?_; simp; done) | (with_reducible refine heap_drawn _ _ _ ?_) | (with_reducible refine heap_under _ _ _ ?_ ?_; (simp <;> omega))))
  have u1 : ((w.alloc (.cells #[.float .f32 px, .float .f32 py, .float .f32 pz] 52)).alloc (.cells #[.float .f32 qx, .float .f32 qy] 26)).heap[w.heap.size + 1]? = some (.cells #[.float .f32 qx, .float .f32 qy] 26 (0, 0)) := by (repeat (first | (refine heap_top _ _ _ ?_; simp; done) | (with_reducible refine heap_drawn _ _ _ ?_) | (with_reducible refine heap_under _ _ _ ?_ ?_; (simp <;> omega))))
  have hC : Hid (∀ W, Stays ((w.alloc (.cells #[.float .f32 px, .float .f32 py, .float .f32 pz] 52)).alloc (.cells #[.float .f32 qx, .float .f32 qy] 26)) W → (W.cell? ⟨w.heap.size, 0, none⟩ = some (.float .f32 px) ∧ W.cell? ⟨w.heap.size, 1, none⟩ = some (.float .f32 py) ∧ W.cell? ⟨w.heap.size, 2, none⟩ = some (.float .f32 pz)) ∧ (W.cell? ⟨w.heap.size + 1, 0, none⟩ = some (.float .f32 qx) ∧ W.cell? ⟨w.heap.size + 1, 1, none⟩ = some (.float .f32 qy))) := Lib.hid fun W hW => ⟨⟨row_of hW u0 0, row_of hW u0 1, row_of hW u0 2⟩, row_of hW u1 0, row_of hW u1 1⟩
  replace hst := Lib.hid hst
  generalize hdx : fop .sub .f32 (can .f32 qx) (can .f32 px) = dx
  generalize hdy : fop .sub .f32 (can .f32 qy) (can .f32 py) = dy
  generalize hres : headO (can .f32 pz) dx dy = res
  unfold headO at hres
  replace hdx := Lib.hid hdx
  replace hdy := Lib.hid hdy
  replace hres := Lib.hid hres
  clear u0 u1
  go_enter Try.func87, Try.ntmps87
  go_wp2_with fail
  generalize ((w.alloc (.cells #[.float .f32 px, .float .f32 py, .float .f32 pz] 52)).alloc (.cells #[.float .f32 qx, .float .f32 qy] 26)) = W0 at hst hC ⊢
  have hcells := hC.out
  refine wp_region_soft_tail 11 (Stays.refl _) (fun _ _ _ => False) [] (by kernel_rfl) (by kernel_rfl) (fun _ h => by cases h) ?_
  simp only [List.take_succ_cons, List.take_zero, List.drop_succ_cons, List.drop_zero]
  repeat ((with_reducible apply soft_detG); (case hwa => rfl); (case hA => rfl); (case h => (intro w1 hw1; have hc := hcells w1 hw1; go_simp; exact rfl)); go_simp)
  ((with_reducible refine soft_fop rfl ?hA _ _ _ _ _ rfl rfl _ _ _ rfl rfl ?_); (case hA => rfl); intro r1 hr1; go_simp)
  repeat ((with_reducible apply soft_detG); (case hwa => rfl); (case hA => rfl); (case h => (intro w1 hw1; have hc := hcells w1 hw1; go_simp; exact rfl)); go_simp)
  ((with_reducible refine soft_fop rfl ?hA _ _ _ _ _ rfl rfl _ _ _ rfl rfl ?_); (case hA => rfl); intro r2 hr2; go_simp)
  repeat ((with_reducible apply soft_detG); (case hwa => rfl); (case hA => rfl); (case h => (intro w1 hw1; have hc := hcells w1 hw1; go_simp; exact rfl)); go_simp)
  refine soft_nil ?_
  rintro w3 ⟨hw3, _⟩
  clear hcells
  have hfx := Lib.hid (show FIs .f32 r1 dx from hr1.of_eq hdx.out)
  have hfy := Lib.hid (show FIs .f32 r2 dy from hr2.of_eq hdy.out)
  have hr' := hres.out
  rw [← hfx.out.out, ← hfy.out.out] at hr'
  clear hr1 hr2 hdx hdy hres
  have hcl := Lib.hid fun W (hW : Stays w3 W) => hC.out W (hw3.trans hW)
  replace hw3 := Lib.hid (hst.out.trans hw3)
  clear hC
  cases h1 : (FloatKind.f32.format.order r1 0 == some Ordering.eq) with
  | true =>
    cases h2 : (FloatKind.f32.format.order r2 0 == some Ordering.eq) with
    | true =>
      rw [← z_of, ← z_of, h1, h2, if_pos (by decide)] at hr'
      replace hr' := Lib.hid hr'
      obtain ⟨⟨p0, p1, p2⟩, _⟩ := hcl.out w3 (Stays.refl _)
      go_wp2
      go_ret
      exact ⟨_, rfl, ⟨pz, rfl, by rw [← hr'.out]; exact FIs.self hpz⟩, hw3.out⟩
    | false =>
      rw [← z_of, ← z_of, h1, h2, if_neg (by decide)] at hr'
      replace hr' := Lib.hid hr'
      go_upto_region 4 with fail
      have hcells := hcl.out
      refine wp_region_soft_tail 7 (Stays.refl _) (awC 143 142) [] (by kernel_rfl) (by kernel_rfl) (fun _ h => by cases h) ?_
      simp only [List.take_succ_cons, List.take_zero, List.drop_succ_cons, List.drop_zero]
      repeat ((with_reducible apply soft_detG); (case hwa => rfl); (case hA => rfl); (case h => (intro w1 hw1; have hc := hcells w1 hw1; go_simp; exact rfl)); go_simp)
      refine soft_callW (A0 := #[.float .f32 r2, .float .f32 r1]) (by rfl) rfl ?h (fun w2 _ => c_implAngle r2 r1 hfy.out.lt hfx.out.lt w2) (fun v hv => (awC_1 (by decide)).2 hv) (fun v hv => (awC_1 (by decide)).1 hv) ?_
      case h => (intro w1 hw1; have hc := hcells w1 hw1; go_simp; try exact ⟨rfl, rfl⟩)
      rintro v ⟨an, rfl, han⟩
      go_simp
      repeat ((with_reducible apply soft_detG); (case hwa => rfl); (case hA => rfl); (case h => (intro w1 hw1; have hc := hcells w1 hw1; go_simp; exact rfl)); go_simp)
      ((with_reducible refine soft_fop rfl ?hA _ _ _ _ _ rfl rfl _ _ _ rfl rfl ?_); (case hA => rfl); intro r9 hr9; go_simp)
      repeat ((with_reducible apply soft_detG); (case hwa => rfl); (case hA => rfl); (case h => (intro w1 hw1; have hc := hcells w1 hw1; go_simp; exact rfl)); go_simp)
      refine soft_callW (A0 := #[.float .f32 r9]) (by rfl) rfl ?h (fun w2 _ => c_implWrap r9 hr9.lt w2) (fun v hv => (awC_2 (by decide)).2 hv) (fun v hv => (awC_2 (by decide)).1 hv) ?_
      case h => (intro w1 hw1; have hc := hcells w1 hw1; go_simp; try exact ⟨rfl, rfl⟩)
      rintro v ⟨tn, rfl, htn⟩
      go_simp
      repeat ((with_reducible apply soft_detG); (case hwa => rfl); (case hA => rfl); (case h => (intro w1 hw1; have hc := hcells w1 hw1; go_simp; exact rfl)); go_simp)
      refine soft_nil ?_
      rintro w6 ⟨hw6, _⟩
      have hT := Lib.hid (show FIs .f32 tn (turnO (can .f32 pz) (can .f32 r1) (can .f32 r2)) from htn.of_eq (by unfold turnO; rw [hr9.out, han.out]))
      clear htn hr9 han hcells
      have st := Lib.hid hw6
      have hcp := Lib.hid fun W (hW : Stays w3 W) => (hcl.out W hW).1.2.2
      have p2 := hcp.out _ st.out
      clear hw6 hcl
      go_wp2_with (first   | (refine wpList_mm rfl maxH tn (exec_maxH _ _ _ rfl tn rfl rfl hT.out.lt _) ?_; intro rm nm hrm; have hM1 := Lib.hid hrm; clear hrm)   | (refine wpList_mm rfl minH rm (exec_minH _ _ _ rfl rm rfl rfl hM1.out.lt _) ?_; intro rn nn hrn; have hM2 := Lib.hid hrn; clear hrn)   | ((with_reducible refine wpList_fop rfl _ _ _ _ _ rfl rfl _ _ _ rfl rfl ?_); intro ra na hra; have hS1 := Lib.hid hra; clear hra))
      refine (c_implWrap ra hS1.out.lt _).mono ?_
      rintro e w7 ⟨_, rfl, ⟨hx, rfl, hhx⟩, hw7⟩
      have hH := Lib.hid (show FIs .f32 hx res from hhx.of_eq (by rw [← hr'.out, hS1.out.out, hM2.out.out, hM1.out.out, hT.out.out]; rfl))
      replace hw7 := Lib.hid (hw3.out.trans (st.out.trans (((Stays.refl w6).drewN _).trans hw7)))
      clear hhx
      go_wp2
      go_ret
      exact ⟨_, rfl, ⟨hx, rfl, hH.out⟩, hw7.out⟩
  | false =>
    rw [← z_of, h1, Bool.false_and, if_neg (by decide)] at hr'
    replace hr' := Lib.hid hr'
    go_upto_region 4 with fail
    have hcells := hcl.out
    refine wp_region_soft_tail 7 (Stays.refl _) (awC 143 142) [] (by kernel_rfl) (by kernel_rfl) (fun _ h => by cases h) ?_
    simp only [List.take_succ_cons, List.take_zero, List.drop_succ_cons, List.drop_zero]
    repeat ((with_reducible apply soft_detG); (case hwa => rfl); (case hA => rfl); (case h => (intro w1 hw1; have hc := hcells w1 hw1; go_simp; exact rfl)); go_simp)
    refine soft_callW (A0 := #[.float .f32 r2, .float .f32 r1]) (by rfl) rfl ?h (fun w2 _ => c_implAngle r2 r1 hfy.out.lt hfx.out.lt w2) (fun v hv => (awC_1 (by decide)).2 hv) (fun v hv => (awC_1 (by decide)).1 hv) ?_
    case h => (intro w1 hw1; have hc := hcells w1 hw1; go_simp; try exact ⟨rfl, rfl⟩)
    rintro v ⟨an, rfl, han⟩
    go_simp
    repeat ((with_reducible apply soft_detG); (case hwa => rfl); (case hA => rfl); (case h => (intro w1 hw1; have hc := hcells w1 hw1; go_simp; exact rfl)); go_simp)
    ((with_reducible refine soft_fop rfl ?hA _ _ _ _ _ rfl rfl _ _ _ rfl rfl ?_); (case hA => rfl); intro r9 hr9; go_simp)
    repeat ((with_reducible apply soft_detG); (case hwa => rfl); (case hA => rfl); (case h => (intro w1 hw1; have hc := hcells w1 hw1; go_simp; exact rfl)); go_simp)
    refine soft_callW (A0 := #[.float .f32 r9]) (by rfl) rfl ?h (fun w2 _ => c_implWrap r9 hr9.lt w2) (fun v hv => (awC_2 (by decide)).2 hv) (fun v hv => (awC_2 (by decide)).1 hv) ?_
    case h => (intro w1 hw1; have hc := hcells w1 hw1; go_simp; try exact ⟨rfl, rfl⟩)
    rintro v ⟨tn, rfl, htn⟩
    go_simp
    repeat ((with_reducible apply soft_detG); (case hwa => rfl); (case hA => rfl); (case h => (intro w1 hw1; have hc := hcells w1 hw1; go_simp; exact rfl)); go_simp)
    refine soft_nil ?_
    rintro w6 ⟨hw6, _⟩
    have hT := Lib.hid (show FIs .f32 tn (turnO (can .f32 pz) (can .f32 r1) (can .f32 r2)) from htn.of_eq (by unfold turnO; rw [hr9.out, han.out]))
    clear htn hr9 han hcells
    have st := Lib.hid hw6
    have hcp := Lib.hid fun W (hW : Stays w3 W) => (hcl.out W hW).1.2.2
    have p2 := hcp.out _ st.out
    clear hw6 hcl
    go_wp2_with (first   | (refine wpList_mm rfl maxH tn (exec_maxH _ _ _ rfl tn rfl rfl hT.out.lt _) ?_; intro rm nm hrm; have hM1 := Lib.hid hrm; clear hrm)   | (refine wpList_mm rfl minH rm (exec_minH _ _ _ rfl rm rfl rfl hM1.out.lt _) ?_; intro rn nn hrn; have hM2 := Lib.hid hrn; clear hrn)   | ((with_reducible refine wpList_fop rfl _ _ _ _ _ rfl rfl _ _ _ rfl rfl ?_); intro ra na hra; have hS1 := Lib.hid hra; clear hra))
    refine (c_implWrap ra hS1.out.lt _).mono ?_
    rintro e w7 ⟨_, rfl, ⟨hx, rfl, hhx⟩, hw7⟩
    have hH := Lib.hid (show FIs .f32 hx res from hhx.of_eq (by rw [← hr'.out, hS1.out.out, hM2.out.out, hM1.out.out, hT.out.out]; rfl))
    replace hw7 := Lib.hid (hw3.out.trans (st.out.trans (((Stays.refl w6).drewN _).trans hw7)))
    clear hhx
    go_wp2
    go_ret
    exact ⟨_, rfl, ⟨hx, rfl, hH.out⟩, hw7.out⟩
end Go.Proofs.Ytejljfejajckoaa

namespace Go.Proofs.Ytejljfejajckoaa
open Go Go.ChangeShapes Go.WideShapes Go.RowKit
set_option linter.unusedVariables false
set_option linter.unusedSimpArgs false

noncomputable def foB (px py pz o s : Option Nat) (xs : List (List NV)) : Bool := (folB px py o xs && finPo px py pz) && finB s
noncomputable def foC (px py pz o s : Option Nat) (xs : List (List NV)) : Int := if foB px py pz o s xs then 0 else 2
def zero3 : List NV := [.f (can .f32 0), .f (can .f32 0), .f (can .f32 0)]
noncomputable def foX (px py pz o s : Option Nat) (xs : List (List NV)) : List NV := if foB px py pz o s xs then foR px py pz s (gx (aheadX px py o xs)) (gy (aheadX px py o xs)) else zero3
def FoDone (w : World) (code : Int) (r : List NV) (e : Ending) (w' : World) : Prop := ∃ x y z, e = .returned (.tuple #[.agg #[.float .f32 x, .float .f32 y, .float .f32 z], .int .i64 code]) ∧ FIs .f32 x (gx r) ∧ FIs .f32 y (gy r) ∧ FIs .f32 z (gz r) ∧ Stays w w'
theorem zero3_fis : FIs .f32 0 (gx zero3) ∧ FIs .f32 0 (gy zero3) ∧ FIs .f32 0 (gz zero3) := ⟨FIs.self (by decide), FIs.self (by decide), FIs.self (by decide)⟩

set_option maxRecDepth 100000 in
set_option maxHeartbeats 4000000 in
theorem c_specFo (A : Option Addr) (c : Nat) (xs : List (List NV)) (px py pz o s : Nat) (w : World) (h : Ls KPt 2 w w.heap.size A xs) (hn : xs.length ≤ 1048576) (hpx : px < 2 ^ 32) (hpy : py < 2 ^ 32) (hpz : pz < 2 ^ 32) (ho : o < 2 ^ 32) (hs : s < 2 ^ 32) :
    Calls Try.prog 26 #[.slice A xs.length c, .agg #[.float .f32 px, .float .f32 py, .float .f32 pz], .float .f32 o, .float .f32 s] w (FoDone w (foC (can .f32 px) (can .f32 py) (can .f32 pz) (can .f32 o) (can .f32 s) xs) (foX (can .f32 px) (can .f32 py) (can .f32 pz) (can .f32 o) (can .f32 s) xs)) := by
  have hst : Stays w (((w.alloc (.cells #[.float .f32 px, .float .f32 py, .float .f32 pz] 52)).alloc (.cells #[.float .f32 0, .float .f32 0, .float .f32 0] 52)).alloc (.cells #[.float .f32 px, .float .f32 py] 26)) := by (repeat (first | exact Stays.refl _ | (with_reducible refine Stays.drewN ?_ _) | (with_reducible refine Stays.alloc ?_ _) | (with_reducible refine Stays.drew ?_) | (refine Stays.trans ?_ ‹Stays _ _›)))
  have u0 : (((w.alloc (.cells #[.float .f32 px, .float .f32 py, .float .f32 pz] 52)).alloc (.cells #[.float .f32 0, .float .f32 0, .float .f32 0] 52)).alloc (.cells #[.float .f32 px, .float .f32 py] 26)).heap[w.heap.size]? = some (.cells #[.float .f32 px, .float .f32 py, .float .f32 pz] 52 (0, 0)) := by (repeat (first | (refine heap_top _ _ _ ?_; simp; done) | (with_reducible refine heap_drawn _ _ _ ?_) | (with_reducible refine heap_under _ _ _ ?_ ?_; (simp <;> omega))))
  have u1 : (((w.alloc (.cells #[.float .f32 px, .float .f32 py, .float .f32 pz] 52)).alloc (.cells #[.float .f32 0, .float .f32 0, .float .f32 0] 52)).alloc (.cells #[.float .f32 px, .float .f32 py] 26)).heap[w.heap.size + 1]? = some (.cells #[.float .f32 0, .float .f32 0, .float .f32 0] 52 (0, 0)) := by (repeat (first | (refine heap_top _ _ _ ?_; simp; done) | (with_reducible refine heap_drawn _ _ _ ?_) | (with_reducible refine heap_under _ _ _ ?_ ?_; (simp <;> omega))))
  have u2 : (((w.alloc (.cells #[.float .f32 px, .float .f32 py, .float .f32 pz] 52)).alloc (.cells #[.float .f32 0, .float .f32 0, .float .f32 0] 52)).alloc (.cells #[.float .f32 px, .float .f32 py] 26)).heap[w.heap.size + 1 + 1]? = some (.cells #[.float .f32 px, .float .f32 py] 26 (0, 0)) := by (repeat (first | (refine heap_top _ _ _ ?_; simp; done) | (with_reducible refine heap_drawn _ _ _ ?_) | (with_reducible refine heap_under _ _ _ ?_ ?_; (simp <;> omega))))
  have v0 : ((w.alloc (.cells #[.float .f32 px, .float .f32 py, .float .f32 pz] 52)).alloc (.cells #[.float .f32 0, .float .f32 0, .float .f32 0] 52)).heap[w.heap.size]? = some (.cells #[.float .f32 px, .float .f32 py, .float .f32 pz] 52 (0, 0)) := by (repeat (first | (refine heap_top _ _ _ ?_; simp; done) | (with_reducible refine heap_drawn _ _ _ ?_) | (with_reducible refine heap_under _ _ _ ?_ ?_; (simp <;> omega))))
  have HV := Lib.hid (show (((w.alloc (.cells #[.float .f32 px, .float .f32 py, .float .f32 pz] 52)).alloc (.cells #[.float .f32 0, .float .f32 0, .float .f32 0] 52)).cell? ⟨w.heap.size, 0, none⟩ = some (.float .f32 px) ∧ ((w.alloc (.cells #[.float .f32 px, .float .f32 py, .float .f32 pz] 52)).alloc (.cells #[.float .f32 0, .float .f32 0, .float .f32 0] 52)).cell? ⟨w.heap.size, 1, none⟩ = some (.float .f32 py) ∧ ((w.alloc (.cells #[.float .f32 px, .float .f32 py, .float .f32 pz] 52)).alloc (.cells #[.float .f32 0, .float .f32 0, .float .f32 0] 52)).cell? ⟨w.heap.size, 2, none⟩ = some (.float .f32 pz)) from ⟨row_of (Stays.refl _) v0 0, row_of (Stays.refl _) v0 1, row_of (Stays.refl _) v0 2⟩)
  have HW : Hid (∀ W, Stays (((w.alloc (.cells #[.float .f32 px, .float .f32 py, .float .f32 pz] 52)).alloc (.cells #[.float .f32 0, .float .f32 0, .float .f32 0] 52)).alloc (.cells #[.float .f32 px, .float .f32 py] 26)) W → ((W.cell? ⟨w.heap.size, 0, none⟩ = some (.float .f32 px) ∧ W.cell? ⟨w.heap.size, 1, none⟩ = some (.float .f32 py) ∧ W.cell? ⟨w.heap.size, 2, none⟩ = some (.float .f32 pz)) ∧ (W.cell? ⟨w.heap.size + 1 + 1, 0, none⟩ = some (.float .f32 px) ∧ W.cell? ⟨w.heap.size + 1 + 1, 1, none⟩ = some (.float .f32 py))) ∧ Stays w W ∧ W.heap[w.heap.size + 1]? = some (.cells #[.float .f32 0, .float .f32 0, .float .f32 0] 52 (0, 0))) := Lib.hid fun W hW => ⟨⟨⟨row_of hW u0 0, row_of hW u0 1, row_of hW u0 2⟩, row_of hW u2 0, row_of hW u2 1⟩, hst.trans hW, (Below.block hW _ (in_heap u1)).trans u1⟩
  have hL := fun W (hW : Stays (((w.alloc (.cells #[.float .f32 px, .float .f32 py, .float .f32 pz] 52)).alloc (.cells #[.float .f32 0, .float .f32 0, .float .f32 0] 52)).alloc (.cells #[.float .f32 px, .float .f32 py] 26)) W) => (h.below (hst.trans hW)).more (hst.trans hW).size
  have kF := Lib.hid fun W (hW : Stays (((w.alloc (.cells #[.float .f32 px, .float .f32 py, .float .f32 pz] 52)).alloc (.cells #[.float .f32 0, .float .f32 0, .float .f32 0] 52)).alloc (.cells #[.float .f32 px, .float .f32 py] 26)) W) => c_l07Follows A c xs px py o W (hL W hW) hn
  have kA := fun hp => Lib.hid fun W (hW : Stays (((w.alloc (.cells #[.float .f32 px, .float .f32 py, .float .f32 pz] 52)).alloc (.cells #[.float .f32 0, .float .f32 0, .float .f32 0] 52)).alloc (.cells #[.float .f32 px, .float .f32 py] 26)) W) => c_l07Ahead A c xs px py o W (hL W hW) hn hp hpx hpy ho
  have kP := Lib.hid fun W => c_finS px py pz hpx hpy hpz W
  have kB := Lib.hid fun W => c_l01Finite s W
  have hpos : folB (can .f32 px) (can .f32 py) (can .f32 o) xs = true → 1 ≤ xs.length := fun e => by
    unfold folB at e
    rw [Bool.and_eq_true, Bool.and_eq_true] at e
    exact (wayB_pos e.1.1).1
  unfold foC foX foB
  generalize hq : folB (can .f32 px) (can .f32 py) (can .f32 o) xs = q0 at kF hpos ⊢
  generalize finPo (can .f32 px) (can .f32 py) (can .f32 pz) = q1 at kP ⊢
  generalize finB (can .f32 s) = q2 at kB ⊢
  clear u0 u1 u2 v0 h hst hL hq
  cases q0 with
  | false =>
    simp only [Bool.false_and, Bool.false_eq_true, if_false]
    clear kA hpos kP kB
    go_enter Try.func26, Try.ntmps26
    obtain ⟨p0, p1, p2⟩ := HV.out
    obtain ⟨⟨_, a0, a1⟩, _⟩ := HW.out _ (Stays.refl _)
    go_wp2_with fail
    generalize (((w.alloc (.cells #[.float .f32 px, .float .f32 py, .float .f32 pz] 52)).alloc (.cells #[.float .f32 0, .float .f32 0, .float .f32 0] 52)).alloc (.cells #[.float .f32 px, .float .f32 py] 26)) = W0 at HW kF ⊢
    clear p0 p1 p2 a0 a1 HV
    refine (kF.out W0 (Stays.refl _)).mono ?_
    rintro e w1 ⟨rfl, hb⟩
    replace hb := Lib.hid (show Stays W0 w1 from hb)
    obtain ⟨_, hst, hres⟩ := HW.out _ hb.out
    go_wp2_with ((refine wpList_store_row rfl _ _ _ rfl _ _ _ rfl rfl hres ?hi ?ho ?h1 ?hB hst ?_); (case hi => kernel_rfl); (case ho => rfl); (case h1 => first | rfl | simp [Value.oneCell']); (case hB => first | omega | (simp <;> omega)); intro w9 hw9 hq9 _ _)
    apply end_gd rfl rfl rfl Try.underlying52 rfl (t := 52)
    case hg => exact hq9
    case hi => kernel_rfl
    case hR => exact ⟨_, _, _, rfl, zero3_fis.1, zero3_fis.2.1, zero3_fis.2.2, hw9⟩
  | true =>
    simp only [Bool.true_and]
    replace kA := kA (hpos rfl)
    clear hpos
    cases q1 with
    | false =>
      simp only [Bool.false_and, Bool.false_eq_true, if_false]
      clear kA kB
      go_enter Try.func26, Try.ntmps26
      obtain ⟨p0, p1, p2⟩ := HV.out
      obtain ⟨⟨_, a0, a1⟩, _⟩ := HW.out _ (Stays.refl _)
      go_wp2_with fail
      generalize (((w.alloc (.cells #[.float .f32 px, .float .f32 py, .float .f32 pz] 52)).alloc (.cells #[.float .f32 0, .float .f32 0, .float .f32 0] 52)).alloc (.cells #[.float .f32 px, .float .f32 py] 26)) = W0 at HW kF ⊢
      clear p0 p1 p2 a0 a1 HV
      refine (kF.out W0 (Stays.refl _)).mono ?_
      rintro e w1 ⟨rfl, hb⟩
      replace hb := Lib.hid (show Stays W0 w1 from hb)
      obtain ⟨⟨⟨p0, p1, p2⟩, _⟩, _⟩ := HW.out _ hb.out
      go_wp2_with fail
      refine (kP.out _).mono ?_
      rintro e w2 ⟨rfl, hb2⟩
      replace hb := Lib.hid (hb.out.trans hb2)
      clear p0 p1 p2 hb2
      obtain ⟨_, hst, hres⟩ := HW.out _ hb.out
      go_wp2_with ((refine wpList_store_row rfl _ _ _ rfl _ _ _ rfl rfl hres ?hi ?ho ?h1 ?hB hst ?_); (case hi => kernel_rfl); (case ho => rfl); (case h1 => first | rfl | simp [Value.oneCell']); (case hB => first | omega | (simp <;> omega)); intro w9 hw9 hq9 _ _)
      apply end_gd rfl rfl rfl Try.underlying52 rfl (t := 52)
      case hg => exact hq9
      case hi => kernel_rfl
      case hR => exact ⟨_, _, _, rfl, zero3_fis.1, zero3_fis.2.1, zero3_fis.2.2, hw9⟩
    | true =>
      simp only [Bool.true_and]
      cases q2 with
      | false =>
        simp only [Bool.false_eq_true, if_false]
        clear kA
        go_enter Try.func26, Try.ntmps26
        obtain ⟨p0, p1, p2⟩ := HV.out
        obtain ⟨⟨_, a0, a1⟩, _⟩ := HW.out _ (Stays.refl _)
        go_wp2_with fail
        generalize (((w.alloc (.cells #[.float .f32 px, .float .f32 py, .float .f32 pz] 52)).alloc (.cells #[.float .f32 0, .float .f32 0, .float .f32 0] 52)).alloc (.cells #[.float .f32 px, .float .f32 py] 26)) = W0 at HW kF ⊢
        clear p0 p1 p2 a0 a1 HV
        refine (kF.out W0 (Stays.refl _)).mono ?_
        rintro e w1 ⟨rfl, hb⟩
        replace hb := Lib.hid (show Stays W0 w1 from hb)
        obtain ⟨⟨⟨p0, p1, p2⟩, _⟩, _⟩ := HW.out _ hb.out
        go_wp2_with fail
        refine (kP.out _).mono ?_
        rintro e w2 ⟨rfl, hb2⟩
        replace hb := Lib.hid (hb.out.trans hb2)
        clear p0 p1 p2 hb2
        go_wp2_with fail
        refine (kB.out _).mono ?_
        rintro e w3 ⟨rfl, hb3⟩
        replace hb := Lib.hid (hb.out.trans hb3)
        clear hb3
        obtain ⟨_, hst, hres⟩ := HW.out _ hb.out
        go_wp2_with ((refine wpList_store_row rfl _ _ _ rfl _ _ _ rfl rfl hres ?hi ?ho ?h1 ?hB hst ?_); (case hi => kernel_rfl); (case ho => rfl); (case h1 => first | rfl | simp [Value.oneCell']); (case hB => first | omega | (simp <;> omega)); intro w9 hw9 hq9 _ _)
        apply end_gd rfl rfl rfl Try.underlying52 rfl (t := 52)
        case hg => exact hq9
        case hi => kernel_rfl
        case hR => exact ⟨_, _, _, rfl, zero3_fis.1, zero3_fis.2.1, zero3_fis.2.2, hw9⟩
      | true =>
        simp only [if_true]
        generalize hres0 : foR (can .f32 px) (can .f32 py) (can .f32 pz) (can .f32 s) (gx (aheadX (can .f32 px) (can .f32 py) (can .f32 o) xs)) (gy (aheadX (can .f32 px) (can .f32 py) (can .f32 o) xs)) = res
        replace hres0 := Lib.hid hres0
        go_enter Try.func26, Try.ntmps26
        obtain ⟨p0, p1, p2⟩ := HV.out
        obtain ⟨⟨_, a0, a1⟩, _⟩ := HW.out _ (Stays.refl _)
        go_wp2_with fail
        generalize (((w.alloc (.cells #[.float .f32 px, .float .f32 py, .float .f32 pz] 52)).alloc (.cells #[.float .f32 0, .float .f32 0, .float .f32 0] 52)).alloc (.cells #[.float .f32 px, .float .f32 py] 26)) = W0 at HW kF kA ⊢
        clear p0 p1 p2 a0 a1 HV
        refine (kF.out W0 (Stays.refl _)).mono ?_
        rintro e w1 ⟨rfl, hb⟩
        replace hb := Lib.hid (show Stays W0 w1 from hb)
        obtain ⟨⟨⟨p0, p1, p2⟩, _⟩, _⟩ := HW.out _ hb.out
        go_wp2_with fail
        refine (kP.out _).mono ?_
        rintro e w2 ⟨rfl, hb2⟩
        replace hb := Lib.hid (hb.out.trans hb2)
        clear p0 p1 p2 hb2
        go_wp2_with fail
        refine (kB.out _).mono ?_
        rintro e w3 ⟨rfl, hb3⟩
        replace hb := Lib.hid (hb.out.trans hb3)
        clear hb3
        obtain ⟨⟨_, a0, a1⟩, _⟩ := HW.out _ hb.out
        go_wp2_with fail
        refine (kA.out w3 hb.out).mono ?_
        rintro e w4 ⟨qx, qy, rfl, hqx, hqy, hb4⟩
        clear a0 a1 kF kP kB kA
        have e0 : foR (can .f32 px) (can .f32 py) (can .f32 pz) (can .f32 s) (gx (aheadX (can .f32 px) (can .f32 py) (can .f32 o) xs)) (gy (aheadX (can .f32 px) (can .f32 py) (can .f32 o) xs)) = foR (can .f32 px) (can .f32 py) (can .f32 pz) (can .f32 s) (can .f32 qx) (can .f32 qy) := by rw [hqx.out, hqy.out]
        replace hres0 := Lib.hid (hres0.out.symm.trans e0)
        replace hb := Lib.hid (hb.out.trans hb4)
        have hbq := Lib.hid (And.intro hqx.lt hqy.lt)
        clear hqx hqy hb4 e0
        have ha := heap_alloc_new w4 (.cells #[.float .f32 qx, .float .f32 qy] 26)
        have hsA : Stays w4 (w4.alloc (.cells #[.float .f32 qx, .float .f32 qy] 26)) := by (repeat (first | exact Stays.refl _ | (with_reducible refine Stays.drewN ?_ _) | (with_reducible refine Stays.alloc ?_ _) | (with_reducible refine Stays.drew ?_) | (refine Stays.trans ?_ ‹Stays _ _›)))
        have hC : Hid (∀ W, Stays (w4.alloc (.cells #[.float .f32 qx, .float .f32 qy] 26)) W → (W.cell? ⟨w4.heap.size, 0, none⟩ = some (.float .f32 qx) ∧ W.cell? ⟨w4.heap.size, 1, none⟩ = some (.float .f32 qy)) ∧ (W.cell? ⟨w.heap.size, 0, none⟩ = some (.float .f32 px) ∧ W.cell? ⟨w.heap.size, 1, none⟩ = some (.float .f32 py) ∧ W.cell? ⟨w.heap.size, 2, none⟩ = some (.float .f32 pz))) := Lib.hid fun W hW => ⟨⟨row_of hW ha 0, row_of hW ha 1⟩, (HW.out W (hb.out.trans (hsA.trans hW))).1.1⟩
        have st := Lib.hid (Stays.refl (w4.alloc (.cells #[.float .f32 qx, .float .f32 qy] 26)))
        replace hb := Lib.hid (hb.out.trans hsA)
        obtain ⟨⟨g0, g1⟩, p0, p1, p2⟩ := hC.out _ st.out
        clear ha hsA
        go_upto_region 6 with ((with_reducible refine wpList_fop rfl _ _ _ _ _ rfl rfl _ _ _ rfl rfl ?_); intro r1 n1 hr1; replace st := Lib.hid (st.out.drewN n1); clear g0 g1 p0 p1 p2; obtain ⟨⟨g0, g1⟩, p0, p1, p2⟩ := hC.out _ st.out)
        have hx1 := Lib.hid hr1
        clear hr1
        go_upto_region 7 with ((with_reducible refine wpList_fop rfl _ _ _ _ _ rfl rfl _ _ _ rfl rfl ?_); intro r2 n2 hr2; replace st := Lib.hid (st.out.drewN n2); clear g0 g1 p0 p1 p2; obtain ⟨⟨g0, g1⟩, p0, p1, p2⟩ := hC.out _ st.out)
        have hx2 := Lib.hid hr2
        clear hr2 g0 g1 p0 p1 p2
        have hfr := hres0.out
        unfold foR headO at hfr
        rw [← hx1.out.out, ← hx2.out.out] at hfr
        have hfx := Lib.hid (show FIs .f32 r1 (can .f32 r1) from FIs.self hx1.out.lt)
        have hfy := Lib.hid (show FIs .f32 r2 (can .f32 r2) from FIs.self hx2.out.lt)
        clear hx1 hx2 hres0 hbq
        have hst5 := Lib.hid (hb.out.trans ((Stays.refl (w4.alloc (.cells #[.float .f32 qx, .float .f32 qy] 26))).drewN (n1 + n2)))
        have hcl := Lib.hid fun W (hW : Stays ((w4.alloc (.cells #[.float .f32 qx, .float .f32 qy] 26)).drewN (n1 + n2)) W) => (HW.out W (hst5.out.trans hW)).1.1
        clear st hC
        generalize ((w4.alloc (.cells #[.float .f32 qx, .float .f32 qy] 26)).drewN (n1 + n2)) = w5 at hst5 hcl ⊢
        obtain ⟨p0, p1, p2⟩ := hcl.out w5 (Stays.refl _)
        cases h1 : (FloatKind.f32.format.order r1 0 == some Ordering.eq) with
        | true =>
          have h1' : (FloatKind.f32.format.order r1 0 != some Ordering.eq) = false := by simp [bne, h1]
          cases h2 : (FloatKind.f32.format.order r2 0 == some Ordering.eq) with
          | true =>
            have h2' : (FloatKind.f32.format.order r2 0 != some Ordering.eq) = false := by simp [bne, h2]
            rw [← z_of, ← z_of, h1, h2, if_pos (by decide)] at hfr
            replace hfr := Lib.hid hfr
            clear p0 p1
            go_upto_region 15 with fail
            clear p2
            have hcp := Lib.hid fun W (hW : Stays w5 W) => And.intro (hcl.out W hW) (HW.out W (hst5.out.trans hW)).2
            have kC := Lib.hid fun W => c_comS px py pz s 0 0 hpx hpy hpz hs (by decide) (by decide) W
            have st := Lib.hid (Stays.refl w5)
            obtain ⟨⟨p0, p1, p2⟩, _⟩ := hcp.out _ st.out
            go_wp2_with fail
            refine (kC.out _).mono ?_
            rintro e w8 ⟨_, rfl, ⟨vx, vy, vz, rfl, f1, f2, f3⟩, hw8⟩
            obtain ⟨_, hst, hres⟩ := hcp.out w8 (st.out.trans hw8)
            have hfin := Lib.hid (And.intro f1 (And.intro f2 f3))
            have hfr' := hfr.out
            clear hw8 f1 f2 f3 p0 p1 p2
            rw [← hfr'] at hfin
            go_wp2_with ((refine wpList_store_row rfl _ _ _ rfl _ _ _ rfl rfl hres ?hi ?ho ?h1 ?hB hst ?_); (case hi => kernel_rfl); (case ho => rfl); (case h1 => first | rfl | simp [Value.oneCell']); (case hB => first | omega | (simp <;> omega)); intro w9 hw9 hq9 _ _)
            apply end_gd rfl rfl rfl Try.underlying52 rfl (t := 52)
            case hg => exact hq9
            case hi => kernel_rfl
            case hR => exact ⟨_, _, _, rfl, hfin.out.1, hfin.out.2.1, hfin.out.2.2, hw9⟩
          | false =>
            have h2' : (FloatKind.f32.format.order r2 0 != some Ordering.eq) = true := by simp [bne, h2]
            rw [← z_of, ← z_of, h1, h2, if_neg (by decide)] at hfr
            replace hfr := Lib.hid hfr
            go_upto_region 9 with fail
            clear p0 p1 p2
            have hcells := hcl.out
            refine wp_region_soft_tail 7 (Stays.refl _) (awC 83 82) [] (by kernel_rfl) (by kernel_rfl) (fun _ h => by cases h) ?_
            simp only [List.take_succ_cons, List.take_zero, List.drop_succ_cons, List.drop_zero]
            repeat ((with_reducible apply soft_detG); (case hwa => rfl); (case hA => rfl); (case h => (intro w1 hw1; have hc := hcells w1 hw1; go_simp; exact rfl)); go_simp)
            refine soft_callW (A0 := #[.float .f32 r2, .float .f32 r1]) (by rfl) rfl ?h (fun w2 _ => c_specAngle r2 r1 hfy.out.lt hfx.out.lt w2) (fun v hv => (awC_1 (by decide)).2 hv) (fun v hv => (awC_1 (by decide)).1 hv) ?_
            case h => (intro w1 hw1; have hc := hcells w1 hw1; go_simp; try exact ⟨rfl, rfl⟩)
            rintro v ⟨an, rfl, han⟩
            go_simp
            repeat ((with_reducible apply soft_detG); (case hwa => rfl); (case hA => rfl); (case h => (intro w1 hw1; have hc := hcells w1 hw1; go_simp; exact rfl)); go_simp)
            ((with_reducible refine soft_fop rfl ?hA _ _ _ _ _ rfl rfl _ _ _ rfl rfl ?_); (case hA => rfl); intro r9 hr9; go_simp)
            repeat ((with_reducible apply soft_detG); (case hwa => rfl); (case hA => rfl); (case h => (intro w1 hw1; have hc := hcells w1 hw1; go_simp; exact rfl)); go_simp)
            refine soft_callW (A0 := #[.float .f32 r9]) (by rfl) rfl ?h (fun w2 _ => c_specWrap r9 hr9.lt w2) (fun v hv => (awC_2 (by decide)).2 hv) (fun v hv => (awC_2 (by decide)).1 hv) ?_
            case h => (intro w1 hw1; have hc := hcells w1 hw1; go_simp; try exact ⟨rfl, rfl⟩)
            rintro v ⟨tn, rfl, htn⟩
            go_simp
            repeat ((with_reducible apply soft_detG); (case hwa => rfl); (case hA => rfl); (case h => (intro w1 hw1; have hc := hcells w1 hw1; go_simp; exact rfl)); go_simp)
            refine soft_nil ?_
            rintro w6 ⟨hw6, _⟩
            have hT := Lib.hid (show FIs .f32 tn (turnO (can .f32 pz) (can .f32 r1) (can .f32 r2)) from htn.of_eq (by unfold turnO; rw [hr9.out, han.out]))
            clear htn hr9 han hcells
            have st := Lib.hid (show Stays w5 w6 from hw6)
            have hcp := Lib.hid fun W (hW : Stays w5 W) => And.intro (hcl.out W hW) (HW.out W (hst5.out.trans hW)).2
            clear hw6 hcl
            obtain ⟨⟨p0, p1, p2⟩, _⟩ := hcp.out _ st.out
            have hcc : (FloatKind.f32.format.order 1056964608 3204448256 == some Ordering.lt) = false := by decide
            cases hg : (FloatKind.f32.format.order tn 1056964608 == some Ordering.gt) with
            | true =>
              have hcl9 := Lib.hid (clamp_gt (o := can .f32 tn) (by rw [← gth_of]; exact hg))
              go_wp2_with ((with_reducible refine wpList_fop rfl _ _ _ _ _ rfl rfl _ _ _ rfl rfl ?_); intro ra na hra; have hS1 := Lib.hid hra; clear hra)
              refine (c_specWrap ra hS1.out.lt _).mono ?_
              rintro e w7 ⟨_, rfl, ⟨hx, rfl, hhx⟩, hw7⟩
              have hH := Lib.hid (show can .f32 hx = wrapO (fop .add .f32 (can .f32 pz) (clampO (turnO (can .f32 pz) (can .f32 r1) (can .f32 r2)))) from by rw [hhx.out, hS1.out.out, ← hT.out.out, hcl9.out])
              have hHl := Lib.hid hhx.lt
              replace st := Lib.hid (st.out.trans (((Stays.refl w6).drewN _).trans hw7))
              have kC := Lib.hid fun W => c_comS px py hx s 0 0 hpx hpy hHl.out hs (by decide) (by decide) W
              rw [← hH.out] at hfr
              clear hhx hw7 p0 p1 p2
              obtain ⟨⟨p0, p1, p2⟩, _⟩ := hcp.out _ st.out
              go_wp2_with fail
              refine (kC.out _).mono ?_
              rintro e w8 ⟨_, rfl, ⟨vx, vy, vz, rfl, f1, f2, f3⟩, hw8⟩
              obtain ⟨_, hst, hres⟩ := hcp.out w8 (st.out.trans hw8)
              have hfin := Lib.hid (And.intro f1 (And.intro f2 f3))
              have hfr' := hfr.out
              clear hw8 f1 f2 f3 p0 p1 p2
              rw [← hfr'] at hfin
              go_wp2_with ((refine wpList_store_row rfl _ _ _ rfl _ _ _ rfl rfl hres ?hi ?ho ?h1 ?hB hst ?_); (case hi => kernel_rfl); (case ho => rfl); (case h1 => first | rfl | simp [Value.oneCell']); (case hB => first | omega | (simp <;> omega)); intro w9 hw9 hq9 _ _)
              apply end_gd rfl rfl rfl Try.underlying52 rfl (t := 52)
              case hg => exact hq9
              case hi => kernel_rfl
              case hR => exact ⟨_, _, _, rfl, hfin.out.1, hfin.out.2.1, hfin.out.2.2, hw9⟩
            | false =>
              cases hl : (FloatKind.f32.format.order tn 3204448256 == some Ordering.lt) with
              | true =>
                have hcl9 := Lib.hid (clamp_lt (o := can .f32 tn) (by rw [← lth_of]; exact hl))
                go_wp2_with ((with_reducible refine wpList_fop rfl _ _ _ _ _ rfl rfl _ _ _ rfl rfl ?_); intro ra na hra; have hS1 := Lib.hid hra; clear hra)
                refine (c_specWrap ra hS1.out.lt _).mono ?_
                rintro e w7 ⟨_, rfl, ⟨hx, rfl, hhx⟩, hw7⟩
                have hH := Lib.hid (show can .f32 hx = wrapO (fop .add .f32 (can .f32 pz) (clampO (turnO (can .f32 pz) (can .f32 r1) (can .f32 r2)))) from by rw [hhx.out, hS1.out.out, ← hT.out.out, hcl9.out])
                have hHl := Lib.hid hhx.lt
                replace st := Lib.hid (st.out.trans (((Stays.refl w6).drewN _).trans hw7))
                have kC := Lib.hid fun W => c_comS px py hx s 0 0 hpx hpy hHl.out hs (by decide) (by decide) W
                rw [← hH.out] at hfr
                clear hhx hw7 p0 p1 p2
                obtain ⟨⟨p0, p1, p2⟩, _⟩ := hcp.out _ st.out
                go_wp2_with fail
                refine (kC.out _).mono ?_
                rintro e w8 ⟨_, rfl, ⟨vx, vy, vz, rfl, f1, f2, f3⟩, hw8⟩
                obtain ⟨_, hst, hres⟩ := hcp.out w8 (st.out.trans hw8)
                have hfin := Lib.hid (And.intro f1 (And.intro f2 f3))
                have hfr' := hfr.out
                clear hw8 f1 f2 f3 p0 p1 p2
                rw [← hfr'] at hfin
                go_wp2_with ((refine wpList_store_row rfl _ _ _ rfl _ _ _ rfl rfl hres ?hi ?ho ?h1 ?hB hst ?_); (case hi => kernel_rfl); (case ho => rfl); (case h1 => first | rfl | simp [Value.oneCell']); (case hB => first | omega | (simp <;> omega)); intro w9 hw9 hq9 _ _)
                apply end_gd rfl rfl rfl Try.underlying52 rfl (t := 52)
                case hg => exact hq9
                case hi => kernel_rfl
                case hR => exact ⟨_, _, _, rfl, hfin.out.1, hfin.out.2.1, hfin.out.2.2, hw9⟩
              | false =>
                have hcl9 := Lib.hid (clamp_in (o := can .f32 tn) (by rw [← lth_of]; exact hl) (by rw [← gth_of]; exact hg))
                go_wp2_with ((with_reducible refine wpList_fop rfl _ _ _ _ _ rfl rfl _ _ _ rfl rfl ?_); intro ra na hra; have hS1 := Lib.hid hra; clear hra)
                refine (c_specWrap ra hS1.out.lt _).mono ?_
                rintro e w7 ⟨_, rfl, ⟨hx, rfl, hhx⟩, hw7⟩
                have hH := Lib.hid (show can .f32 hx = wrapO (fop .add .f32 (can .f32 pz) (clampO (turnO (can .f32 pz) (can .f32 r1) (can .f32 r2)))) from by rw [hhx.out, hS1.out.out, ← hT.out.out, hcl9.out])
                have hHl := Lib.hid hhx.lt
                replace st := Lib.hid (st.out.trans (((Stays.refl w6).drewN _).trans hw7))
                have kC := Lib.hid fun W => c_comS px py hx s 0 0 hpx hpy hHl.out hs (by decide) (by decide) W
                rw [← hH.out] at hfr
                clear hhx hw7 p0 p1 p2
                obtain ⟨⟨p0, p1, p2⟩, _⟩ := hcp.out _ st.out
                go_wp2_with fail
                refine (kC.out _).mono ?_
                rintro e w8 ⟨_, rfl, ⟨vx, vy, vz, rfl, f1, f2, f3⟩, hw8⟩
                obtain ⟨_, hst, hres⟩ := hcp.out w8 (st.out.trans hw8)
                have hfin := Lib.hid (And.intro f1 (And.intro f2 f3))
                have hfr' := hfr.out
                clear hw8 f1 f2 f3 p0 p1 p2
                rw [← hfr'] at hfin
                go_wp2_with ((refine wpList_store_row rfl _ _ _ rfl _ _ _ rfl rfl hres ?hi ?ho ?h1 ?hB hst ?_); (case hi => kernel_rfl); (case ho => rfl); (case h1 => first | rfl | simp [Value.oneCell']); (case hB => first | omega | (simp <;> omega)); intro w9 hw9 hq9 _ _)
                apply end_gd rfl rfl rfl Try.underlying52 rfl (t := 52)
                case hg => exact hq9
                case hi => kernel_rfl
                case hR => exact ⟨_, _, _, rfl, hfin.out.1, hfin.out.2.1, hfin.out.2.2, hw9⟩
        | false =>
          have h1' : (FloatKind.f32.format.order r1 0 != some Ordering.eq) = true := by simp [bne, h1]
          rw [← z_of, h1, Bool.false_and, if_neg (by decide)] at hfr
          replace hfr := Lib.hid hfr
          go_upto_region 9 with fail
          clear p0 p1 p2
          have hcells := hcl.out
          refine wp_region_soft_tail 7 (Stays.refl _) (awC 83 82) [] (by kernel_rfl) (by kernel_rfl) (fun _ h => by cases h) ?_
          simp only [List.take_succ_cons, List.take_zero, List.drop_succ_cons, List.drop_zero]
          repeat ((with_reducible apply soft_detG); (case hwa => rfl); (case hA => rfl); (case h => (intro w1 hw1; have hc := hcells w1 hw1; go_simp; exact rfl)); go_simp)
          refine soft_callW (A0 := #[.float .f32 r2, .float .f32 r1]) (by rfl) rfl ?h (fun w2 _ => c_specAngle r2 r1 hfy.out.lt hfx.out.lt w2) (fun v hv => (awC_1 (by decide)).2 hv) (fun v hv => (awC_1 (by decide)).1 hv) ?_
          case h => (intro w1 hw1; have hc := hcells w1 hw1; go_simp; try exact ⟨rfl, rfl⟩)
          rintro v ⟨an, rfl, han⟩
          go_simp
          repeat ((with_reducible apply soft_detG); (case hwa => rfl); (case hA => rfl); (case h => (intro w1 hw1; have hc := hcells w1 hw1; go_simp; exact rfl)); go_simp)
          ((with_reducible refine soft_fop rfl ?hA _ _ _ _ _ rfl rfl _ _ _ rfl rfl ?_); (case hA => rfl); intro r9 hr9; go_simp)
          repeat ((with_reducible apply soft_detG); (case hwa => rfl); (case hA => rfl); (case h => (intro w1 hw1; have hc := hcells w1 hw1; go_simp; exact rfl)); go_simp)
          refine soft_callW (A0 := #[.float .f32 r9]) (by rfl) rfl ?h (fun w2 _ => c_specWrap r9 hr9.lt w2) (fun v hv => (awC_2 (by decide)).2 hv) (fun v hv => (awC_2 (by decide)).1 hv) ?_
          case h => (intro w1 hw1; have hc := hcells w1 hw1; go_simp; try exact ⟨rfl, rfl⟩)
          rintro v ⟨tn, rfl, htn⟩
          go_simp
          repeat ((with_reducible apply soft_detG); (case hwa => rfl); (case hA => rfl); (case h => (intro w1 hw1; have hc := hcells w1 hw1; go_simp; exact rfl)); go_simp)
          refine soft_nil ?_
          rintro w6 ⟨hw6, _⟩
          have hT := Lib.hid (show FIs .f32 tn (turnO (can .f32 pz) (can .f32 r1) (can .f32 r2)) from htn.of_eq (by unfold turnO; rw [hr9.out, han.out]))
          clear htn hr9 han hcells
          have st := Lib.hid (show Stays w5 w6 from hw6)
          have hcp := Lib.hid fun W (hW : Stays w5 W) => And.intro (hcl.out W hW) (HW.out W (hst5.out.trans hW)).2
          clear hw6 hcl
          obtain ⟨⟨p0, p1, p2⟩, _⟩ := hcp.out _ st.out
          have hcc : (FloatKind.f32.format.order 1056964608 3204448256 == some Ordering.lt) = false := by decide
          cases hg : (FloatKind.f32.format.order tn 1056964608 == some Ordering.gt) with
          | true =>
            have hcl9 := Lib.hid (clamp_gt (o := can .f32 tn) (by rw [← gth_of]; exact hg))
            go_wp2_with ((with_reducible refine wpList_fop rfl _ _ _ _ _ rfl rfl _ _ _ rfl rfl ?_); intro ra na hra; have hS1 := Lib.hid hra; clear hra)
            refine (c_specWrap ra hS1.out.lt _).mono ?_
            rintro e w7 ⟨_, rfl, ⟨hx, rfl, hhx⟩, hw7⟩
            have hH := Lib.hid (show can .f32 hx = wrapO (fop .add .f32 (can .f32 pz) (clampO (turnO (can .f32 pz) (can .f32 r1) (can .f32 r2)))) from by rw [hhx.out, hS1.out.out, ← hT.out.out, hcl9.out])
            have hHl := Lib.hid hhx.lt
            replace st := Lib.hid (st.out.trans (((Stays.refl w6).drewN _).trans hw7))
            have kC := Lib.hid fun W => c_comS px py hx s 0 0 hpx hpy hHl.out hs (by decide) (by decide) W
            rw [← hH.out] at hfr
            clear hhx hw7 p0 p1 p2
            obtain ⟨⟨p0, p1, p2⟩, _⟩ := hcp.out _ st.out
            go_wp2_with fail
            refine (kC.out _).mono ?_
            rintro e w8 ⟨_, rfl, ⟨vx, vy, vz, rfl, f1, f2, f3⟩, hw8⟩
            obtain ⟨_, hst, hres⟩ := hcp.out w8 (st.out.trans hw8)
            have hfin := Lib.hid (And.intro f1 (And.intro f2 f3))
            have hfr' := hfr.out
            clear hw8 f1 f2 f3 p0 p1 p2
            rw [← hfr'] at hfin
            go_wp2_with ((refine wpList_store_row rfl _ _ _ rfl _ _ _ rfl rfl hres ?hi ?ho ?h1 ?hB hst ?_); (case hi => kernel_rfl); (case ho => rfl); (case h1 => first | rfl | simp [Value.oneCell']); (case hB => first | omega | (simp <;> omega)); intro w9 hw9 hq9 _ _)
            apply end_gd rfl rfl rfl Try.underlying52 rfl (t := 52)
            case hg => exact hq9
            case hi => kernel_rfl
            case hR => exact ⟨_, _, _, rfl, hfin.out.1, hfin.out.2.1, hfin.out.2.2, hw9⟩
          | false =>
            cases hl : (FloatKind.f32.format.order tn 3204448256 == some Ordering.lt) with
            | true =>
              have hcl9 := Lib.hid (clamp_lt (o := can .f32 tn) (by rw [← lth_of]; exact hl))
              go_wp2_with ((with_reducible refine wpList_fop rfl _ _ _ _ _ rfl rfl _ _ _ rfl rfl ?_); intro ra na hra; have hS1 := Lib.hid hra; clear hra)
              refine (c_specWrap ra hS1.out.lt _).mono ?_
              rintro e w7 ⟨_, rfl, ⟨hx, rfl, hhx⟩, hw7⟩
              have hH := Lib.hid (show can .f32 hx = wrapO (fop .add .f32 (can .f32 pz) (clampO (turnO (can .f32 pz) (can .f32 r1) (can .f32 r2)))) from by rw [hhx.out, hS1.out.out, ← hT.out.out, hcl9.out])
              have hHl := Lib.hid hhx.lt
              replace st := Lib.hid (st.out.trans (((Stays.refl w6).drewN _).trans hw7))
              have kC := Lib.hid fun W => c_comS px py hx s 0 0 hpx hpy hHl.out hs (by decide) (by decide) W
              rw [← hH.out] at hfr
              clear hhx hw7 p0 p1 p2
              obtain ⟨⟨p0, p1, p2⟩, _⟩ := hcp.out _ st.out
              go_wp2_with fail
              refine (kC.out _).mono ?_
              rintro e w8 ⟨_, rfl, ⟨vx, vy, vz, rfl, f1, f2, f3⟩, hw8⟩
              obtain ⟨_, hst, hres⟩ := hcp.out w8 (st.out.trans hw8)
              have hfin := Lib.hid (And.intro f1 (And.intro f2 f3))
              have hfr' := hfr.out
              clear hw8 f1 f2 f3 p0 p1 p2
              rw [← hfr'] at hfin
              go_wp2_with ((refine wpList_store_row rfl _ _ _ rfl _ _ _ rfl rfl hres ?hi ?ho ?h1 ?hB hst ?_); (case hi => kernel_rfl); (case ho => rfl); (case h1 => first | rfl | simp [Value.oneCell']); (case hB => first | omega | (simp <;> omega)); intro w9 hw9 hq9 _ _)
              apply end_gd rfl rfl rfl Try.underlying52 rfl (t := 52)
              case hg => exact hq9
              case hi => kernel_rfl
              case hR => exact ⟨_, _, _, rfl, hfin.out.1, hfin.out.2.1, hfin.out.2.2, hw9⟩
            | false =>
              have hcl9 := Lib.hid (clamp_in (o := can .f32 tn) (by rw [← lth_of]; exact hl) (by rw [← gth_of]; exact hg))
              go_wp2_with ((with_reducible refine wpList_fop rfl _ _ _ _ _ rfl rfl _ _ _ rfl rfl ?_); intro ra na hra; have hS1 := Lib.hid hra; clear hra)
              refine (c_specWrap ra hS1.out.lt _).mono ?_
              rintro e w7 ⟨_, rfl, ⟨hx, rfl, hhx⟩, hw7⟩
              have hH := Lib.hid (show can .f32 hx = wrapO (fop .add .f32 (can .f32 pz) (clampO (turnO (can .f32 pz) (can .f32 r1) (can .f32 r2)))) from by rw [hhx.out, hS1.out.out, ← hT.out.out, hcl9.out])
              have hHl := Lib.hid hhx.lt
              replace st := Lib.hid (st.out.trans (((Stays.refl w6).drewN _).trans hw7))
              have kC := Lib.hid fun W => c_comS px py hx s 0 0 hpx hpy hHl.out hs (by decide) (by decide) W
              rw [← hH.out] at hfr
              clear hhx hw7 p0 p1 p2
              obtain ⟨⟨p0, p1, p2⟩, _⟩ := hcp.out _ st.out
              go_wp2_with fail
              refine (kC.out _).mono ?_
              rintro e w8 ⟨_, rfl, ⟨vx, vy, vz, rfl, f1, f2, f3⟩, hw8⟩
              obtain ⟨_, hst, hres⟩ := hcp.out w8 (st.out.trans hw8)
              have hfin := Lib.hid (And.intro f1 (And.intro f2 f3))
              have hfr' := hfr.out
              clear hw8 f1 f2 f3 p0 p1 p2
              rw [← hfr'] at hfin
              go_wp2_with ((refine wpList_store_row rfl _ _ _ rfl _ _ _ rfl rfl hres ?hi ?ho ?h1 ?hB hst ?_); (case hi => kernel_rfl); (case ho => rfl); (case h1 => first | rfl | simp [Value.oneCell']); (case hB => first | omega | (simp <;> omega)); intro w9 hw9 hq9 _ _)
              apply end_gd rfl rfl rfl Try.underlying52 rfl (t := 52)
              case hg => exact hq9
              case hi => kernel_rfl
              case hR => exact ⟨_, _, _, rfl, hfin.out.1, hfin.out.2.1, hfin.out.2.2, hw9⟩
end Go.Proofs.Ytejljfejajckoaa

namespace Go.Proofs.Ytejljfejajckoaa
open Go Go.ChangeShapes Go.WideShapes Go.RowKit
set_option linter.unusedVariables false
set_option linter.unusedSimpArgs false

set_option maxRecDepth 100000 in
set_option maxHeartbeats 4000000 in
theorem c_implFo (A : Option Addr) (c : Nat) (xs : List (List NV)) (px py pz o s : Nat) (w : World) (h : Ls KPt 2 w w.heap.size A xs) (hn : xs.length ≤ 1048576) (hc : xs.length ≤ c) (hpx : px < 2 ^ 32) (hpy : py < 2 ^ 32) (hpz : pz < 2 ^ 32) (ho : o < 2 ^ 32) (hs : s < 2 ^ 32) :
    Calls Try.prog 28 #[.slice A xs.length c, .agg #[.float .f32 px, .float .f32 py, .float .f32 pz], .float .f32 o, .float .f32 s] w (FoDone w (foC (can .f32 px) (can .f32 py) (can .f32 pz) (can .f32 o) (can .f32 s) xs) (foX (can .f32 px) (can .f32 py) (can .f32 pz) (can .f32 o) (can .f32 s) xs)) := by
  have hst : Stays w ((w.alloc (.cells #[.float .f32 px, .float .f32 py, .float .f32 pz] 52)).alloc (.cells #[.float .f32 0, .float .f32 0, .float .f32 0] 52)) := by (repeat (first | exact Stays.refl _ | (with_reducible refine Stays.drewN ?_ _) | (with_reducible refine Stays.alloc ?_ _) | (with_reducible refine Stays.drew ?_) | (refine Stays.trans ?_ ‹Stays _ _›)))
  have u0 : ((w.alloc (.cells #[.float .f32 px, .float .f32 py, .float .f32 pz] 52)).alloc (.cells #[.float .f32 0, .float .f32 0, .float .f32 0] 52)).heap[w.heap.size]? = some (.cells #[.float .f32 px, .float .f32 py, .float .f32 pz] 52 (0, 0)) := by (repeat (first | (refine heap_top _ _ _ ?_; simp; done) | (with_reducible refine heap_drawn _ _ _ ?_) | (with_reducible refine heap_under _ _ _ ?_ ?_; (simp <;> omega))))
  have u1 : ((w.alloc (.cells #[.float .f32 px, .float .f32 py, .float .f32 pz] 52)).alloc (.cells #[.float .f32 0, .float .f32 0, .float .f32 0] 52)).heap[w.heap.size + 1]? = some (.cells #[.float .f32 0, .float .f32 0, .float .f32 0] 52 (0, 0)) := by (repeat (first | (refine heap_top _ _ _ ?_; simp; done) | (with_reducible refine heap_drawn _ _ _ ?_) | (with_reducible refine heap_under _ _ _ ?_ ?_; (simp <;> omega))))
  have HW : Hid (∀ W, Stays ((w.alloc (.cells #[.float .f32 px, .float .f32 py, .float .f32 pz] 52)).alloc (.cells #[.float .f32 0, .float .f32 0, .float .f32 0] 52)) W → (W.cell? ⟨w.heap.size, 0, none⟩ = some (.float .f32 px) ∧ W.cell? ⟨w.heap.size, 1, none⟩ = some (.float .f32 py) ∧ W.cell? ⟨w.heap.size, 2, none⟩ = some (.float .f32 pz)) ∧ (Stays w W ∧ W.heap[w.heap.size + 1]? = some (.cells #[.float .f32 0, .float .f32 0, .float .f32 0] 52 (0, 0))) ∧ W.heap[w.heap.size]? = some (.cells #[.float .f32 px, .float .f32 py, .float .f32 pz] 52 (0, 0))) := Lib.hid fun W hW => ⟨⟨row_of hW u0 0, row_of hW u0 1, row_of hW u0 2⟩, ⟨hst.trans hW, (Below.block hW _ (in_heap u1)).trans u1⟩, (Below.block hW _ (in_heap u0)).trans u0⟩
  have kA := Lib.hid (c_implAhead A c xs px py o ((w.alloc (.cells #[.float .f32 px, .float .f32 py, .float .f32 pz] 52)).alloc (.cells #[.float .f32 0, .float .f32 0, .float .f32 0] 52)) ((h.below hst).more hst.size) hn hc hpx hpy ho)
  have kP := Lib.hid fun W => c_finI px py pz hpx hpy hpz W
  have kB := Lib.hid fun W => c_isFinite s W
  unfold foC foX foB
  clear u0 u1 h hst
  unfold ahC ahX at kA
  generalize folB (can .f32 px) (can .f32 py) (can .f32 o) xs = q0 at kA ⊢
  generalize finPo (can .f32 px) (can .f32 py) (can .f32 pz) = q1 at kP ⊢
  generalize finB (can .f32 s) = q2 at kB ⊢
  generalize hr0 : aheadX (can .f32 px) (can .f32 py) (can .f32 o) xs = ra at kA
  replace hr0 := Lib.hid hr0
  cases q0 with
  | false =>
    simp only [Bool.false_and, Bool.false_eq_true, if_false] at kA ⊢
    clear kP kB hr0
    go_enter Try.func28, Try.ntmps28
    obtain ⟨⟨p0, p1, p2⟩, _⟩ := HW.out _ (Stays.refl _)
    go_wp2_with fail
    generalize ((w.alloc (.cells #[.float .f32 px, .float .f32 py, .float .f32 pz] 52)).alloc (.cells #[.float .f32 0, .float .f32 0, .float .f32 0] 52)) = W0 at HW kA p0 p1 p2 ⊢
    refine kA.out.mono ?_
    rintro e w1 ⟨qx, qy, rfl, hqx, hqy, hb⟩
    clear p0 p1 p2 kA
    have ha := heap_alloc_new w1 (.cells #[.float .f32 qx, .float .f32 qy] 26)
    have hsA : Stays w1 (w1.alloc (.cells #[.float .f32 qx, .float .f32 qy] 26)) := by (repeat (first | exact Stays.refl _ | (with_reducible refine Stays.drewN ?_ _) | (with_reducible refine Stays.alloc ?_ _) | (with_reducible refine Stays.drew ?_) | (refine Stays.trans ?_ ‹Stays _ _›)))
    have hb := Lib.hid (show Stays W0 (w1.alloc (.cells #[.float .f32 qx, .float .f32 qy] 26)) from hb.trans hsA)
    have hQ := Lib.hid fun W (hW : Stays (w1.alloc (.cells #[.float .f32 qx, .float .f32 qy] 26)) W) => (show W.cell? ⟨w1.heap.size, 0, none⟩ = some (.float .f32 qx) ∧ W.cell? ⟨w1.heap.size, 1, none⟩ = some (.float .f32 qy) from ⟨row_of hW ha 0, row_of hW ha 1⟩)
    have hqf := Lib.hid (And.intro hqx hqy)
    clear ha hsA hqx hqy
    obtain ⟨⟨p0, p1, p2⟩, _⟩ := HW.out _ hb.out
    go_upto_region 2 with fail
    have st := Lib.hid (Stays.refl (w1.alloc (.cells #[.float .f32 qx, .float .f32 qy] 26)))
    generalize (w1.alloc (.cells #[.float .f32 qx, .float .f32 qy] 26)) = w2 at hb hQ st p0 p1 p2 ⊢
    clear p0 p1 p2
    obtain ⟨_, ⟨hst, hres⟩, _⟩ := HW.out _ (hb.out.trans st.out)
    go_wp2_with ((refine wpList_store_row rfl _ _ _ rfl _ _ _ rfl rfl hres ?hi ?ho ?h1 ?hB hst ?_); (case hi => kernel_rfl); (case ho => rfl); (case h1 => first | rfl | simp [Value.oneCell']); (case hB => first | omega | (simp <;> omega)); intro w9 hw9 hq9 _ _)
    apply end_gd rfl rfl rfl Try.underlying52 rfl (t := 52)
    case hg => exact hq9
    case hi => kernel_rfl
    case hR => exact ⟨_, _, _, rfl, zero3_fis.1, zero3_fis.2.1, zero3_fis.2.2, hw9⟩
  | true =>
    simp only [Bool.true_and, if_true] at kA ⊢
    cases q1 with
    | false =>
      simp only [Bool.false_and, Bool.false_eq_true, if_false]
      clear kB hr0
      go_enter Try.func28, Try.ntmps28
      obtain ⟨⟨p0, p1, p2⟩, _⟩ := HW.out _ (Stays.refl _)
      go_wp2_with fail
      generalize ((w.alloc (.cells #[.float .f32 px, .float .f32 py, .float .f32 pz] 52)).alloc (.cells #[.float .f32 0, .float .f32 0, .float .f32 0] 52)) = W0 at HW kA p0 p1 p2 ⊢
      refine kA.out.mono ?_
      rintro e w1 ⟨qx, qy, rfl, hqx, hqy, hb⟩
      clear p0 p1 p2 kA
      have ha := heap_alloc_new w1 (.cells #[.float .f32 qx, .float .f32 qy] 26)
      have hsA : Stays w1 (w1.alloc (.cells #[.float .f32 qx, .float .f32 qy] 26)) := by (repeat (first | exact Stays.refl _ | (with_reducible refine Stays.drewN ?_ _) | (with_reducible refine Stays.alloc ?_ _) | (with_reducible refine Stays.drew ?_) | (refine Stays.trans ?_ ‹Stays _ _›)))
      have hb := Lib.hid (show Stays W0 (w1.alloc (.cells #[.float .f32 qx, .float .f32 qy] 26)) from hb.trans hsA)
      have hQ := Lib.hid fun W (hW : Stays (w1.alloc (.cells #[.float .f32 qx, .float .f32 qy] 26)) W) => (show W.cell? ⟨w1.heap.size, 0, none⟩ = some (.float .f32 qx) ∧ W.cell? ⟨w1.heap.size, 1, none⟩ = some (.float .f32 qy) from ⟨row_of hW ha 0, row_of hW ha 1⟩)
      have hqf := Lib.hid (And.intro hqx hqy)
      clear ha hsA hqx hqy
      obtain ⟨⟨p0, p1, p2⟩, _⟩ := HW.out _ hb.out
      go_upto_region 2 with fail
      have st := Lib.hid (Stays.refl (w1.alloc (.cells #[.float .f32 qx, .float .f32 qy] 26)))
      generalize (w1.alloc (.cells #[.float .f32 qx, .float .f32 qy] 26)) = w2 at hb hQ st p0 p1 p2 ⊢
      go_wp2_with fail
      refine (kP.out _).mono ?_
      rintro e w3 ⟨rfl, hb2⟩
      replace st := Lib.hid (st.out.trans hb2)
      clear p0 p1 p2 hb2
      obtain ⟨_, ⟨hst, hres⟩, _⟩ := HW.out _ (hb.out.trans st.out)
      go_wp2_with ((refine wpList_store_row rfl _ _ _ rfl _ _ _ rfl rfl hres ?hi ?ho ?h1 ?hB hst ?_); (case hi => kernel_rfl); (case ho => rfl); (case h1 => first | rfl | simp [Value.oneCell']); (case hB => first | omega | (simp <;> omega)); intro w9 hw9 hq9 _ _)
      apply end_gd rfl rfl rfl Try.underlying52 rfl (t := 52)
      case hg => exact hq9
      case hi => kernel_rfl
      case hR => exact ⟨_, _, _, rfl, zero3_fis.1, zero3_fis.2.1, zero3_fis.2.2, hw9⟩
    | true =>
      simp only [Bool.true_and]
      cases q2 with
      | false =>
        simp only [Bool.false_eq_true, if_false]
        clear hr0
        go_enter Try.func28, Try.ntmps28
        obtain ⟨⟨p0, p1, p2⟩, _⟩ := HW.out _ (Stays.refl _)
        go_wp2_with fail
        generalize ((w.alloc (.cells #[.float .f32 px, .float .f32 py, .float .f32 pz] 52)).alloc (.cells #[.float .f32 0, .float .f32 0, .float .f32 0] 52)) = W0 at HW kA p0 p1 p2 ⊢
        refine kA.out.mono ?_
        rintro e w1 ⟨qx, qy, rfl, hqx, hqy, hb⟩
        clear p0 p1 p2 kA
        have ha := heap_alloc_new w1 (.cells #[.float .f32 qx, .float .f32 qy] 26)
        have hsA : Stays w1 (w1.alloc (.cells #[.float .f32 qx, .float .f32 qy] 26)) := by (repeat (first | exact Stays.refl _ | (with_reducible refine Stays.drewN ?_ _) | (with_reducible refine Stays.alloc ?_ _) | (with_reducible refine Stays.drew ?_) | (refine Stays.trans ?_ ‹Stays _ _›)))
        have hb := Lib.hid (show Stays W0 (w1.alloc (.cells #[.float .f32 qx, .float .f32 qy] 26)) from hb.trans hsA)
        have hQ := Lib.hid fun W (hW : Stays (w1.alloc (.cells #[.float .f32 qx, .float .f32 qy] 26)) W) => (show W.cell? ⟨w1.heap.size, 0, none⟩ = some (.float .f32 qx) ∧ W.cell? ⟨w1.heap.size, 1, none⟩ = some (.float .f32 qy) from ⟨row_of hW ha 0, row_of hW ha 1⟩)
        have hqf := Lib.hid (And.intro hqx hqy)
        clear ha hsA hqx hqy
        obtain ⟨⟨p0, p1, p2⟩, _⟩ := HW.out _ hb.out
        go_upto_region 2 with fail
        have st := Lib.hid (Stays.refl (w1.alloc (.cells #[.float .f32 qx, .float .f32 qy] 26)))
        generalize (w1.alloc (.cells #[.float .f32 qx, .float .f32 qy] 26)) = w2 at hb hQ st p0 p1 p2 ⊢
        go_wp2_with fail
        refine (kP.out _).mono ?_
        rintro e w3 ⟨rfl, hb2⟩
        replace st := Lib.hid (st.out.trans hb2)
        clear p0 p1 p2 hb2
        go_wp2_with fail
        refine (kB.out _).mono ?_
        rintro e w4 ⟨rfl, hb3⟩
        replace st := Lib.hid (st.out.trans hb3)
        clear hb3
        obtain ⟨_, ⟨hst, hres⟩, _⟩ := HW.out _ (hb.out.trans st.out)
        go_wp2_with ((refine wpList_store_row rfl _ _ _ rfl _ _ _ rfl rfl hres ?hi ?ho ?h1 ?hB hst ?_); (case hi => kernel_rfl); (case ho => rfl); (case h1 => first | rfl | simp [Value.oneCell']); (case hB => first | omega | (simp <;> omega)); intro w9 hw9 hq9 _ _)
        apply end_gd rfl rfl rfl Try.underlying52 rfl (t := 52)
        case hg => exact hq9
        case hi => kernel_rfl
        case hR => exact ⟨_, _, _, rfl, zero3_fis.1, zero3_fis.2.1, zero3_fis.2.2, hw9⟩
      | true =>
        simp only [if_true]
        go_enter Try.func28, Try.ntmps28
        obtain ⟨⟨p0, p1, p2⟩, _⟩ := HW.out _ (Stays.refl _)
        go_wp2_with fail
        generalize ((w.alloc (.cells #[.float .f32 px, .float .f32 py, .float .f32 pz] 52)).alloc (.cells #[.float .f32 0, .float .f32 0, .float .f32 0] 52)) = W0 at HW kA p0 p1 p2 ⊢
        refine kA.out.mono ?_
        rintro e w1 ⟨qx, qy, rfl, hqx, hqy, hb⟩
        clear p0 p1 p2 kA
        have ha := heap_alloc_new w1 (.cells #[.float .f32 qx, .float .f32 qy] 26)
        have hsA : Stays w1 (w1.alloc (.cells #[.float .f32 qx, .float .f32 qy] 26)) := by (repeat (first | exact Stays.refl _ | (with_reducible refine Stays.drewN ?_ _) | (with_reducible refine Stays.alloc ?_ _) | (with_reducible refine Stays.drew ?_) | (refine Stays.trans ?_ ‹Stays _ _›)))
        have hb := Lib.hid (show Stays W0 (w1.alloc (.cells #[.float .f32 qx, .float .f32 qy] 26)) from hb.trans hsA)
        have hQ := Lib.hid fun W (hW : Stays (w1.alloc (.cells #[.float .f32 qx, .float .f32 qy] 26)) W) => (show W.cell? ⟨w1.heap.size, 0, none⟩ = some (.float .f32 qx) ∧ W.cell? ⟨w1.heap.size, 1, none⟩ = some (.float .f32 qy) from ⟨row_of hW ha 0, row_of hW ha 1⟩)
        have hqf := Lib.hid (And.intro hqx hqy)
        clear ha hsA hqx hqy
        obtain ⟨⟨p0, p1, p2⟩, _⟩ := HW.out _ hb.out
        go_upto_region 2 with fail
        have st := Lib.hid (Stays.refl (w1.alloc (.cells #[.float .f32 qx, .float .f32 qy] 26)))
        generalize (w1.alloc (.cells #[.float .f32 qx, .float .f32 qy] 26)) = w2 at hb hQ st p0 p1 p2 ⊢
        go_wp2_with fail
        refine (kP.out _).mono ?_
        rintro e w3 ⟨rfl, hb2⟩
        replace st := Lib.hid (st.out.trans hb2)
        clear p0 p1 p2 hb2
        go_wp2_with fail
        refine (kB.out _).mono ?_
        rintro e w4 ⟨rfl, hb3⟩
        replace st := Lib.hid (st.out.trans hb3)
        clear hb3
        obtain ⟨⟨p0, p1, p2⟩, _⟩ := HW.out _ (hb.out.trans st.out)
        obtain ⟨d0, d1⟩ := hQ.out _ st.out
        go_wp2_with fail
        refine (c_headingTo px py pz qx qy _ hpx hpy hpz hqf.out.1.lt hqf.out.2.lt).mono ?_
        rintro e w5 ⟨_, rfl, ⟨hx, rfl, hhx⟩, hb5⟩
        have hfr := Lib.hid (show foR (can .f32 px) (can .f32 py) (can .f32 pz) (can .f32 s) (gx ra) (gy ra) = comO [.f (can .f32 px), .f (can .f32 py), .f (can .f32 hx)] [.f (can .f32 s), .f (can .f32 0), .f (can .f32 0)] from by unfold foR; rw [hhx.out, hqf.out.1.out, hqf.out.2.out])
        have kC := Lib.hid fun W => c_comI px py hx s 0 0 hpx hpy hhx.lt hs (by decide) (by decide) W
        clear p0 p1 p2 d0 d1 hhx hqf
        obtain ⟨_, ⟨hst5, hres5⟩, hrow⟩ := HW.out _ (hb.out.trans (st.out.trans hb5))
        have hf := frozen_of_row _ _ 2 _ _ hrow
        have p2 := cell_of_row _ _ 2 _ _ _ hrow
        have m1 : (w5.setCell ⟨w.heap.size, 2, none⟩ (.float .f32 hx)).heap[w.heap.size]? = some (.cells #[.float .f32 px, .float .f32 py, .float .f32 hx] 52 (0, 0)) := heap_setCell_same w5 w.heap.size 2 _ _ (.float .f32 hx) hrow
        have m2 : (w5.setCell ⟨w.heap.size, 2, none⟩ (.float .f32 hx)).heap[w.heap.size + 1]? = some (.cells #[.float .f32 0, .float .f32 0, .float .f32 0] 52 (0, 0)) := (heap_setCell_other w5 ⟨w.heap.size, 2, none⟩ (w.heap.size + 1) (.float .f32 hx) (by show w.heap.size + 1 ≠ w.heap.size; omega)).trans hres5
        have m3 : Stays w (w5.setCell ⟨w.heap.size, 2, none⟩ (.float .f32 hx)) := hst5.setCell _ _ (Nat.le_refl _)
        replace m1 := Lib.hid m1
        replace m2 := Lib.hid m2
        replace m3 := Lib.hid m3
        clear hrow hres5 hst5 hb5
        go_upto_region 5 with fail
        clear hf p2
        generalize (w5.setCell ⟨w.heap.size, 2, none⟩ (.float .f32 hx)) = w6 at m1 m2 m3 ⊢
        have p0 := cell_of_row _ _ 0 _ _ _ m1.out
        have p1 := cell_of_row _ _ 1 _ _ _ m1.out
        have p2 := cell_of_row _ _ 2 _ _ _ m1.out
        go_wp2_with fail
        refine (kC.out _).mono ?_
        rintro e w8 ⟨_, rfl, ⟨vx, vy, vz, rfl, f1, f2, f3⟩, hw8⟩
        have hres := (Below.block hw8 _ (in_heap m2.out)).trans m2.out
        have hst := m3.out.trans hw8
        have hfin := Lib.hid (And.intro f1 (And.intro f2 f3))
        have hfr' := hfr.out
        clear hw8 f1 f2 f3 p0 p1 p2
        rw [← hfr'] at hfin
        go_wp2_with ((refine wpList_store_row rfl _ _ _ rfl _ _ _ rfl rfl hres ?hi ?ho ?h1 ?hB hst ?_); (case hi => kernel_rfl); (case ho => rfl); (case h1 => first | rfl | simp [Value.oneCell']); (case hB => first | omega | (simp <;> omega)); intro w9 hw9 hq9 _ _)
        apply end_gd rfl rfl rfl Try.underlying52 rfl (t := 52)
        case hg => exact hq9
        case hi => kernel_rfl
        case hR => exact ⟨_, _, _, rfl, hfin.out.1, hfin.out.2.1, hfin.out.2.2, hw9⟩
end Go.Proofs.Ytejljfejajckoaa

namespace Go.Proofs.Ytejljfejajckoaa
open Go Go.ChangeShapes Go.WideShapes Go.RowKit
set_option linter.unusedVariables false
set_option linter.unusedSimpArgs false

theorem c_toPts (A : Option Addr) (c : Nat) (xs : List (List NV)) (w : World) (h : Ls KPt 2 w w.heap.size A xs) (hn : xs.length ≤ 1048576) :
    Calls Try.prog 22 #[.slice A xs.length c] w fun e w' => ∃ g, e = .returned (.slice (some ⟨g, 0, none⟩) xs.length xs.length) ∧ Stays w w' ∧ LiesL KPt 2 w' g (.slice (some ⟨g, 0, none⟩) xs.length xs.length) xs := by
  refine (c_toFloat32A2S A c xs w h hn).mono ?_
  rintro e w' ⟨rfl, hp⟩
  exact ⟨_, rfl, hp.below, hp.lies⟩
theorem Ls.go {K : List Kd} {n : Nat} {w w' : World} {A : Option Addr} {xs : List (List NV)} (h : Ls K n w w.heap.size A xs) (hs : Stays w w') : Ls K n w' w'.heap.size A xs := (h.below hs).more hs.size

theorem c_toPo (x y z : Nat) (r : List NV) (fx : FIs .f32 x (gx r)) (fy : FIs .f32 y (gy r)) (fz : FIs .f32 z (gz r)) (w : World) : Calls Try.prog 27 #[.agg #[.float .f32 x, .float .f32 y, .float .f32 z]] w fun e w' => ∃ x' y' z', e = .returned (.agg #[.float .f32 x', .float .f32 y', .float .f32 z']) ∧ FIs .f32 x' (gx r) ∧ FIs .f32 y' (gy r) ∧ FIs .f32 z' (gz r) ∧ Stays w w' := by
  refine (c_toPose (.agg #[.float .f32 x, .float .f32 y, .float .f32 z]) [.f (gx r), .f (gy r), .f (gz r)] w ⟨_, rfl, ⟨x, rfl, fx⟩, ⟨y, rfl, fy⟩, ⟨z, rfl, fz⟩, trivial⟩).mono ?_
  rintro e w' ⟨cs, rfl, hk, hb⟩
  obtain ⟨x', y', z', e, fx', fy', fz'⟩ := po_cells hk
  obtain ⟨l⟩ := cs
  have e : l = [.float .f32 x', .float .f32 y', .float .f32 z'] := e
  subst e
  exact ⟨x', y', z', rfl, fx', fy', fz', hb⟩

/-- A box that is still empty. -/
structure ZP3 (w : World) (B p : Nat) : Prop where
  ge : B ≤ p
  row : w.heap[p]? = some (.cells #[.float .f32 0, .float .f32 0, .float .f32 0] 52 (0, 0))
theorem ZP3.new {B : Nat} (w : World) (h : B ≤ w.heap.size) : ZP3 (w.alloc (.cells #[.float .f32 0, .float .f32 0, .float .f32 0] 52)) B w.heap.size := ⟨h, heap_alloc_new w _⟩
theorem ZP3.newD (w : World) : ZP3 (w.drew.alloc (.cells #[.float .f32 0, .float .f32 0, .float .f32 0] 52)) w.heap.size w.heap.size := ZP3.new w.drew (Nat.le_refl _)
theorem ZP3.below {w w' : World} {B p : Nat} (h : ZP3 w B p) (hb : Stays w w') : ZP3 w' B p := ⟨h.ge, (Below.block hb _ (in_heap h.row)).trans h.row⟩
theorem ZP3.cells {w : World} {B p : Nat} (h : ZP3 w B p) : (w.cell? ⟨p, 0, none⟩ = some (.float .f32 0) ∧ w.cell? ⟨p, 1, none⟩ = some (.float .f32 0) ∧ w.cell? ⟨p, 2, none⟩ = some (.float .f32 0)) ∧ w.frozen? ⟨p, 0, none⟩ = false ∧ w.frozen? ⟨p, 1, none⟩ = false ∧ w.frozen? ⟨p, 2, none⟩ = false :=
  ⟨⟨cell_of_row _ _ _ _ _ _ h.row, cell_of_row _ _ _ _ _ _ h.row, cell_of_row _ _ _ _ _ _ h.row⟩, frozen_of_row _ _ _ _ _ h.row, frozen_of_row _ _ _ _ _ h.row, frozen_of_row _ _ _ _ _ h.row⟩
/-- A row that was made into a box, and a code. -/
def MadeP3 (W : World) (code : Int) (res : List NV) (s t : Value) (w : World) : Prop := ∃ p rx ry rz, s = .pointer (some ⟨p, 0, none⟩) ∧ t = .int .i64 code ∧ W.heap.size ≤ p ∧ w.heap[p]? = some (.cells #[.float .f32 rx, .float .f32 ry, .float .f32 rz] 52 (0, 0)) ∧ (FIs .f32 rx (gx res) ∧ FIs .f32 ry (gy res) ∧ FIs .f32 rz (gz res)) ∧ Stays W w
theorem MadeP3.alloc {W w : World} {res : List NV} {rx ry rz : Nat} (code : Int) (h : Stays W w) (hf : FIs .f32 rx (gx res) ∧ FIs .f32 ry (gy res) ∧ FIs .f32 rz (gz res)) : MadeP3 W code res (.pointer (some ⟨w.heap.size, 0, none⟩)) (.int .i64 code) (w.alloc (.cells #[.float .f32 rx, .float .f32 ry, .float .f32 rz] 52)) :=
  ⟨_, rx, ry, rz, rfl, rfl, h.size, heap_alloc_new w _, hf, h.trans (by (repeat (first | exact Stays.refl _ | (with_reducible refine Stays.drewN ?_ _) | (with_reducible refine Stays.alloc ?_ _) | (with_reducible refine Stays.drew ?_) | (refine Stays.trans ?_ ‹Stays _ _›))))⟩
theorem ZP3.stays {W w : World} {p : Nat} (h : Stays W w) (hz : ZP3 w W.heap.size p) (rx ry rz : Nat) : Stays W (((w.setCell ⟨p, 0, none⟩ (.float .f32 rx)).setCell ⟨p, 1, none⟩ (.float .f32 ry)).setCell ⟨p, 2, none⟩ (.float .f32 rz)) :=
  (Below.setCell (Below.setCell (Below.setCell (show Below W.heap.size W w from h) hz.ge _) hz.ge _) hz.ge _)
theorem MadeP3.sets {W w : World} {res : List NV} {p rx ry rz : Nat} (code : Int) (h : Stays W w) (hz : ZP3 w W.heap.size p) (hf : FIs .f32 rx (gx res) ∧ FIs .f32 ry (gy res) ∧ FIs .f32 rz (gz res)) : MadeP3 W code res (.pointer (some ⟨p, 0, none⟩)) (.int .i64 code) (((w.setCell ⟨p, 0, none⟩ (.float .f32 rx)).setCell ⟨p, 1, none⟩ (.float .f32 ry)).setCell ⟨p, 2, none⟩ (.float .f32 rz)) := by
  have m1 := heap_setCell_same _ p 0 _ _ (.float .f32 rx) hz.row
  have m2 := heap_setCell_same _ p 1 _ _ (.float .f32 ry) m1
  have m3 := heap_setCell_same _ p 2 _ _ (.float .f32 rz) m2
  exact ⟨p, rx, ry, rz, rfl, rfl, hz.ge, m3, hf, hz.stays h rx ry rz⟩

set_option maxRecDepth 100000 in
set_option maxHeartbeats 4000000 in
theorem c_lawFollowWay {p : Prop} (A : Option Addr) (c : Nat) (xs : List (List NV)) (cs : Array Value) (ns : List NV) (b d : Nat) (w : World) (h : Ls KPt 2 w w.heap.size A xs) (hn : xs.length ≤ 9223372036854775807) (k : KMs KPose cs.toList ns) (_ : p) (hb : b < 2 ^ 32) (hd : d < 2 ^ 32) :
    Calls Try.prog 5 #[.slice A xs.length c, .agg cs, .float .f32 b, .float .f32 d] w fun e w' => e = .returned (.bool true) ∧ Below w.heap.size w w' := by
  obtain ⟨ax, ay, az, e, fa0, fa1, fa2⟩ := po_cells k
  have e : cs = #[.float .f32 ax, .float .f32 ay, .float .f32 az] := by
    obtain ⟨l⟩ := cs
    exact congrArg Array.mk e
  subst e
  have u0 : (w.alloc (.cells #[.float .f32 ax, .float .f32 ay, .float .f32 az] 51)).heap[w.heap.size]? = some (.cells #[.float .f32 ax, .float .f32 ay, .float .f32 az] 51 (0, 0)) := by (repeat (first | (refine heap_top _ _ _ ?_; simp; done) | (with_reducible refine heap_drawn _ _ _ ?_) | (with_reducible refine heap_under _ _ _ ?_ ?_; (simp <;> omega))))
  have hst : Stays w (w.alloc (.cells #[.float .f32 ax, .float .f32 ay, .float .f32 az] 51)) := by (repeat (first | exact Stays.refl _ | (with_reducible refine Stays.drewN ?_ _) | (with_reducible refine Stays.alloc ?_ _) | (with_reducible refine Stays.drew ?_) | (refine Stays.trans ?_ ‹Stays _ _›)))
  have HB : Hid (∀ W, Stays (w.alloc (.cells #[.float .f32 ax, .float .f32 ay, .float .f32 az] 51)) W → (W.cell? ⟨w.heap.size, 0, none⟩ = some (.float .f32 ax) ∧ W.cell? ⟨w.heap.size, 1, none⟩ = some (.float .f32 ay) ∧ W.cell? ⟨w.heap.size, 2, none⟩ = some (.float .f32 az)) ∧ Stays w W ∧ Ls KPt 2 W W.heap.size A xs) := Lib.hid fun W hW => ⟨⟨row_of hW u0 0, row_of hW u0 1, row_of hW u0 2⟩, hst.trans hW, (h.below (hst.trans hW)).more (hst.trans hW).size⟩
  have kz := fun W => c_szFloat32A2S A c xs.length 1048576 W hn (by omega) (by omega)
  clear h u0 hst
  by_cases hl : (1048576 : Int) - xs.length < 0
  · simp only [if_pos hl] at kz
    replace kz := Lib.hid kz
    go_enter Try.func5, Try.ntmps5
    go_wp2_with fail
    refine (kz.out _).mono ?_
    rintro e w1 ⟨rfl, rfl⟩
    go_wp2
    go_ret
    exact ⟨rfl, (HB.out _ (Stays.refl _)).2.1⟩
  · simp only [if_neg hl] at kz
    have hn' : xs.length ≤ 1048576 := by omega
    have hX : ¬ ((1048576 : Int) - xs.length < 0) := hl
    generalize (1048576 : Int) - xs.length = X at hX kz
    replace kz := Lib.hid kz
    have kT := Lib.hid fun W (hW : Stays (w.alloc (.cells #[.float .f32 ax, .float .f32 ay, .float .f32 az] 51)) W) => c_toPts A c xs W (HB.out W hW).2.2 hn'
    have kQ := Lib.hid fun W => c_toPo ax ay az ns fa0 fa1 fa2 W
    have kS := Lib.hid fun A c tx ty tz W (h : Ls KPt 2 W W.heap.size A xs) (fb0 : FIs .f32 tx (gx ns)) (fb1 : FIs .f32 ty (gy ns)) (fb2 : FIs .f32 tz (gz ns)) => (show Calls Try.prog 26 #[.slice A xs.length c, .agg #[.float .f32 tx, .float .f32 ty, .float .f32 tz], .float .f32 b, .float .f32 d] W (FoDone W (foC (gx ns) (gy ns) (gz ns) (can .f32 b) (can .f32 d) xs) (foX (gx ns) (gy ns) (gz ns) (can .f32 b) (can .f32 d) xs)) from by rw [← fb0.out, ← fb1.out, ← fb2.out]; exact c_specFo A c xs tx ty tz b d W h hn' fb0.lt fb1.lt fb2.lt hb hd)
    have kI := Lib.hid fun A c tx ty tz W (h : Ls KPt 2 W W.heap.size A xs) (hc : xs.length ≤ c) (fb0 : FIs .f32 tx (gx ns)) (fb1 : FIs .f32 ty (gy ns)) (fb2 : FIs .f32 tz (gz ns)) => (show Calls Try.prog 28 #[.slice A xs.length c, .agg #[.float .f32 tx, .float .f32 ty, .float .f32 tz], .float .f32 b, .float .f32 d] W (FoDone W (foC (gx ns) (gy ns) (gz ns) (can .f32 b) (can .f32 d) xs) (foX (gx ns) (gy ns) (gz ns) (can .f32 b) (can .f32 d) xs)) from by rw [← fb0.out, ← fb1.out, ← fb2.out]; exact c_implFo A c xs tx ty tz b d W h hn' hc fb0.lt fb1.lt fb2.lt hb hd)
    generalize foC (gx ns) (gy ns) (gz ns) (can .f32 b) (can .f32 d) xs = code at kS kI
    generalize foX (gx ns) (gy ns) (gz ns) (can .f32 b) (can .f32 d) xs = res at kS kI
    clear hl hn fa0 fa1 fa2 hb hd
    go_enter Try.func5, Try.ntmps5
    go_wp2_with fail
    refine (kz.out _).mono ?_
    rintro e w1 ⟨rfl, rfl⟩
    have ha := Lib.hid (Stays.refl (w.alloc (.cells #[.float .f32 ax, .float .f32 ay, .float .f32 az] 51)))
    generalize (w.alloc (.cells #[.float .f32 ax, .float .f32 ay, .float .f32 az] 51)) = W0 at HB kT ha ⊢
    have ha1 := Lib.hid (Stays.refl W0)
    go_upto_region 5 with fail
    go_cut [10, 11] from 20 to 29 (fun s8 s9 wx => MadeP3 W0 code res s8 s9 wx)
    case first =>
      have G1 : Hid (∀ w', Stays W0 w' → (w'.cell? ⟨w.heap.size, 0, none⟩ = some (.float .f32 ax) ∧ w'.cell? ⟨w.heap.size, 1, none⟩ = some (.float .f32 ay) ∧ w'.cell? ⟨w.heap.size, 2, none⟩ = some (.float .f32 az))) := Lib.hid fun w' h => (HB.out w' h).1
      have h1 := Lib.hid (show Stays W0 W0.drew from (Stays.refl W0).drew)
      go_region_held (fun w' => (w'.cell? ⟨w.heap.size, 0, none⟩ = some (.float .f32 ax) ∧ w'.cell? ⟨w.heap.size, 1, none⟩ = some (.float .f32 ay) ∧ w'.cell? ⟨w.heap.size, 2, none⟩ = some (.float .f32 az))) (first | exact G1.out _ h1.out | exact G1.out _ h2.out | exact G1.out _ h3.out | exact G1.out _ h4.out | exact G1.out _ (h1.out.alloc _) | exact G1.out _ (h2.out.alloc _) | exact G1.out _ (h3.out.alloc _) | exact G1.out _ (h4.out.alloc _) | exact G1.out _ (ZP3.stays h4.out hz.out _ _ _))
        (first
          | (go_at_call 26; first | ((with_reducible refine (kS.out _ _ tx ty tz _ hLs.out fb0 fb1 fb2).mono ?_); rintro e w4 ⟨sx, sy, sz, rfl, fs0, fs1, fs2, hb⟩; have h4 := Lib.hid (h3.out.trans hb); have hF := Lib.hid (show FIs .f32 sx (gx res) ∧ FIs .f32 sy (gy res) ∧ FIs .f32 sz (gz res) from ⟨fs0, fs1, fs2⟩); (try (replace hz := Lib.hid (hz.out.below hb); obtain ⟨⟨z0, z1, z2⟩, f0, f1, f2⟩ := hz.out.cells)); clear hb) | ((with_reducible refine (kS.out _ _ tx ty tz _ (Ls.go hLs.out ((Stays.refl _).alloc _)) fb0 fb1 fb2).mono ?_); rintro e w4 ⟨sx, sy, sz, rfl, fs0, fs1, fs2, hb⟩; have hz := Lib.hid ((ZP3.new (B := W0.heap.size) _ h3.out.size).below hb); obtain ⟨⟨z0, z1, z2⟩, f0, f1, f2⟩ := hz.out.cells; have h4 := Lib.hid ((h3.out.alloc _).trans hb); have hF := Lib.hid (show FIs .f32 sx (gx res) ∧ FIs .f32 sy (gy res) ∧ FIs .f32 sz (gz res) from ⟨fs0, fs1, fs2⟩); clear hb))
          | (go_at_call 27; first | ((with_reducible refine (kQ.out _).mono ?_); rintro e w3 ⟨tx, ty, tz, rfl, fb0, fb1, fb2, hb⟩; have h3 := Lib.hid (h2.out.trans hb); (first | replace hLs := Lib.hid (Ls.go hLs.out hb) | replace hLs := Lib.hid (Ls.go hLs.out (((Stays.refl _).alloc _).trans hb))); (try (replace hz := Lib.hid (hz.out.below hb); skip)); clear hb) | ((with_reducible refine (kQ.out _).mono ?_); rintro e w3 ⟨tx, ty, tz, rfl, fb0, fb1, fb2, hb⟩; have hz := Lib.hid ((ZP3.new (B := W0.heap.size) _ h2.out.size).below hb); skip; have h3 := Lib.hid ((h2.out.alloc _).trans hb); (first | replace hLs := Lib.hid (Ls.go hLs.out hb) | replace hLs := Lib.hid (Ls.go hLs.out (((Stays.refl _).alloc _).trans hb))); clear hb))
          | (go_at_call 22; first | ((with_reducible refine (kT.out _ h1.out).mono ?_); rintro e w2 ⟨g2, rfl, hb, hp⟩; have h2 := Lib.hid (h1.out.trans hb); have hLs := Lib.hid hp.rows; clear hp; (try (replace hz := Lib.hid (hz.out.below hb); skip)); clear hb) | ((with_reducible refine (kT.out _ (h1.out.alloc _)).mono ?_); rintro e w2 ⟨g2, rfl, hb, hp⟩; have hz := Lib.hid ((ZP3.newD W0).below hb); skip; have h2 := Lib.hid ((h1.out.alloc _).trans hb); have hLs := Lib.hid hp.rows; clear hp; clear hb) | ((with_reducible refine (kT.out _ ((Stays.refl W0).alloc _).drew).mono ?_); rintro e w2 ⟨g2, rfl, hb, hp⟩; have hz := Lib.hid (((ZP3.new (B := W0.heap.size) _ (Nat.le_refl _)).below (Stays.refl _).drew).below hb); skip; have h2 := Lib.hid ((((Stays.refl W0).alloc _).drew).trans hb); have hLs := Lib.hid hp.rows; clear hp; clear hb)))
      all_goals (go_wp2_with fail; go_meet; (first | exact MadeP3.sets code h4.out hz.out hF.out | exact MadeP3.alloc code h4.out hF.out))
    case rest =>
    obtain ⟨p0, rx, ry, rz, rfl, rfl, hge0, hrow0, hf0, hs0⟩ := hcut
    rename World => w4
    replace hge0 := Lib.hid hge0
    replace hrow0 := Lib.hid hrow0
    replace hf0 := Lib.hid hf0
    replace ha := Lib.hid hs0
    clear hs0
    go_wp2_with fail
    refine (kT.out w4 ha.out).mono ?_
    rintro e w5 ⟨g5, rfl, hs5, hp⟩
    have hL := Lib.hid hp
    replace ha := Lib.hid (ha.out.trans hs5)
    replace hrow0 := Lib.hid ((Below.block hs5 _ (in_heap hrow0.out)).trans hrow0.out)
    clear hp hs5
    obtain ⟨e0, e1, e2⟩ := (HB.out w5 ha.out).1
    go_wp2_with fail
    refine (kQ.out _).mono ?_
    rintro e w6 ⟨qx, qy, qz, rfl, fe0, fe1, fe2, hs6⟩
    replace ha := Lib.hid (ha.out.trans hs6)
    replace hL := Lib.hid (hL.out.below hs6)
    replace hrow0 := Lib.hid ((Below.block hs6 _ (in_heap hrow0.out)).trans hrow0.out)
    clear hs6 e0 e1 e2
    go_wp2_with fail
    refine (kI.out _ _ qx qy qz w6 hL.out.rows (Nat.le_refl _) fe0 fe1 fe2).mono ?_
    rintro e w7 ⟨jx, jy, jz, rfl, fg0, fg1, fg2, hs7⟩
    replace ha := Lib.hid (ha.out.trans hs7)
    replace hL := Lib.hid (hL.out.below hs7)
    replace hrow0 := Lib.hid ((Below.block hs7 _ (in_heap hrow0.out)).trans hrow0.out)
    clear hs7 fe0 fe1 fe2
    have hs8 : Stays w7 (w7.alloc (.cells #[.float .f32 jx, .float .f32 jy, .float .f32 jz] 52)) := by (repeat (first | exact Stays.refl _ | (with_reducible refine Stays.drewN ?_ _) | (with_reducible refine Stays.alloc ?_ _) | (with_reducible refine Stays.drew ?_) | (refine Stays.trans ?_ ‹Stays _ _›)))
    have hrow1 := Lib.hid (heap_alloc_new w7 (.cells #[.float .f32 jx, .float .f32 jy, .float .f32 jz] 52))
    replace hrow0 := Lib.hid ((Below.block hs8 _ (in_heap hrow0.out)).trans hrow0.out)
    have ha8 := Lib.hid (ha.out.trans hs8)
    have hL8 := Lib.hid (hL.out.below hs8)
    have hfg := Lib.hid (show FIs .f32 jx (gx res) ∧ FIs .f32 jy (gy res) ∧ FIs .f32 jz (gz res) from ⟨fg0, fg1, fg2⟩)
    clear hs8 fg0 fg1 fg2
    have c0 := cell_of_row _ _ 0 _ _ _ hrow0.out
    have d0 := cell_of_row _ _ 0 _ _ _ hrow1.out
    have c1 := cell_of_row _ _ 1 _ _ _ hrow0.out
    have d1 := cell_of_row _ _ 1 _ _ _ hrow1.out
    have c2 := cell_of_row _ _ 2 _ _ _ hrow0.out
    have d2 := cell_of_row _ _ 2 _ _ _ hrow1.out
    go_wp2_with fail
    generalize (w7.alloc (.cells #[.float .f32 jx, .float .f32 jy, .float .f32 jz] 52)) = W8 at ha8 hL8 hrow0 hrow1 ⊢
    refine (c_eqPose (.agg #[.float .f32 jx, .float .f32 jy, .float .f32 jz]) (.agg #[.float .f32 rx, .float .f32 ry, .float .f32 rz]) [.f (gx res), .f (gy res), .f (gz res)] _ ⟨_, rfl, ⟨_, rfl, hfg.out.1⟩, ⟨_, rfl, hfg.out.2.1⟩, ⟨_, rfl, hfg.out.2.2⟩, trivial⟩ ⟨_, rfl, ⟨_, rfl, hf0.out.1⟩, ⟨_, rfl, hf0.out.2.1⟩, ⟨_, rfl, hf0.out.2.2⟩, trivial⟩).mono ?_
    rintro e w9 ⟨rfl, hs9⟩
    replace hs9 : Stays W8 w9 := hs9
    replace ha8 := Lib.hid (ha8.out.trans hs9)
    replace hL8 := Lib.hid (hL8.out.below hs9)
    clear hs9 c0 d0 c1 d1 c2 d2 hrow0 hrow1
    go_wp2_with fail
    refine (kT.out w9 ha8.out).mono ?_
    rintro e w10 ⟨g10, rfl, hs10, hp⟩
    have hL2 := Lib.hid hp
    replace ha8 := Lib.hid (ha8.out.trans hs10)
    replace hL8 := Lib.hid (hL8.out.below hs10)
    clear hp hs10
    go_wp2_with fail
    refine (c_eqFloat32A2S _ _ _ _ xs w10 hL8.out.rows hL2.out.rows hn').mono ?_
    rintro e w11 ⟨rfl, hs11⟩
    replace ha8 := Lib.hid (ha8.out.trans hs11)
    clear hs11
    go_wp2
    go_ret
    exact ⟨rfl, (HB.out _ ha8.out).2.1⟩
end Go.Proofs.Ytejljfejajckoaa
