/- The meaning of the smallest functions on numbers, as symbols of the symbolic walk. No condition. -/
import Derived.Test.YtcopccniijkceaaY8
import Derived.Test.YtcopccniijkceaaB10
namespace Go.Proofs.Ytcopccniijkceaa
open Go Go.RowKit
set_option linter.unusedVariables false

def in0 (l : List NV) : NV := l.getD 0 (.i 0)
def in1 (l : List NV) : NV := l.getD 1 (.i 0)

def integralF (way : Ieee.Toward) (b : Nat) : Nat := Ieee.double.write ((Ieee.double.read b).integral way)

/-- The symbols: 1: finite; 2: the root; 3: the size; 4: the wide root; 5: the wide size; 6: the same number; 7: the bits; 8: the greatest integer below; 9: the nearest integer. -/
def baseSyms : Nat → Nat → List NV → NV
  | 1, _, l => .b (finB (in0 l).gf)
  | 2, _, l => .f (froot (in0 l).gf)
  | 3, _, l => .f ((in0 l).gf.map bare)
  | 4, _, l => .f (fsqrt (in0 l).gf)
  | 5, _, l => .f ((in0 l).gf.map (· % 2 ^ 63))
  | 6, _, l => .b ((in0 l).gf == (in1 l).gf)
  | 7, _, l => .i ((in0 l).gf.getD 2143289344 : Nat)
  | 8, _, l => .f ((in0 l).gf.map (integralF .down))
  | 9, _, l => .f ((in0 l).gf.map (integralF .even))
  | _, _, _ => .i 0

def symsOf (f : Nat → Nat → List NV → NV) : Syms := fun imm l => f (imm / 64) (imm % 64) l

theorem one_arg {k : Kd} {vs : Array Value} {ins : List NV} (h : ShMs [.one k] vs.toList ins) : ∃ v x, vs = #[v] ∧ ins = [x] ∧ KM k v x := by
  obtain ⟨l⟩ := vs
  match l, h with
  | [v], h =>
    obtain ⟨n1, n2, h1, ⟨x, hx, hk⟩, h2⟩ := h
    have h2 : n2 = [] := h2
    subst h2 hx
    exact ⟨v, x, rfl, by simpa using h1, hk⟩

theorem two_args {k k2 : Kd} {vs : Array Value} {ins : List NV} (h : ShMs [.one k, .one k2] vs.toList ins) : ∃ v x v2 x2, vs = #[v, v2] ∧ ins = [x, x2] ∧ KM k v x ∧ KM k2 v2 x2 := by
  obtain ⟨l⟩ := vs
  match l, h with
  | [v, v2], h =>
    obtain ⟨n1, n2, h1, ⟨x, hx, hk⟩, ⟨n3, n4, h3, ⟨x2, hx2, hk2⟩, h4⟩⟩ := h
    have h4 : n4 = [] := h4
    subst h4 hx2 h3 hx
    exact ⟨v, x, v2, x2, rfl, by simpa using h1, hk, hk2⟩

theorem quiet_nan (s : Bool) (t : Nat) : (FloatKind.f64.decode (FloatKind.f64.encode (.nan s (FloatKind.f64.format.quiet t)))).isNaN = true := by
  show (Ieee.double.read (Ieee.double.word s (Ieee.double.infRung + (t ||| 2 ^ 51) % 2 ^ 52))).isNaN = true
  have h1 : 0 < (t ||| 2 ^ 51) % 2 ^ 52 := by
    have : ((t ||| 2 ^ 51) % 2 ^ 52).testBit 51 = true := by
      rw [Nat.testBit_mod_two_pow, Nat.testBit_or, Nat.testBit_two_pow_self]
      simp
    apply Nat.pos_of_ne_zero
    intro e
    rw [e] at this
    simp at this
  have h2 : (t ||| 2 ^ 51) % 2 ^ 52 < 2 ^ 52 := Nat.mod_lt _ (Nat.two_pow_pos _)
  generalize (t ||| 2 ^ 51) % 2 ^ 52 = q at h1 h2
  have e4 : Ieee.double.infRung = 2047 * 2 ^ 52 := rfl
  have e2 : Ieee.double.binade = 2 ^ 52 := rfl
  have e3 : Ieee.double.signWeight = 2 ^ 63 := rfl
  rw [read_word Ieee.double s (by rw [e3, e4]; omega), if_neg (by rw [e2, e4]; omega), if_neg (by omega), if_neg (by omega)]
  rfl

theorem integral_not_nan {d : Ieee.Datum} {way : Ieee.Toward} (h : d.isNaN = false) : (d.integral way).isNaN = false := by cases d <;> first | rfl | cases h

theorem run_integral (nm : String) (way : Ieee.Toward) (x : Nat) (w : World) (hx : x < 2 ^ 64) : ∃ r n, (Extern.MathFloor.toIntegral nm way #[.float .f64 x]).run Try.prog w = .ok (.float .f64 r) (w.drewN n) ∧ FIs .f64 r ((can .f64 x).map (integralF way)) := by
  have e : Extern.MathFloor.toIntegral nm way #[.float .f64 x] = (match FloatKind.f64.decode x with
    | .nan s t => if FloatKind.f64.format.quiet t = t then pure (.float .f64 x) else do pure (.float .f64 (if (← choose (.extern "math.Floor,Ceil,Trunc,RoundToEven.signallingNaN kept" 2)) == 1 then x else FloatKind.f64.encode (.nan s (FloatKind.f64.format.quiet t))))
    | d => pure (.float .f64 (FloatKind.f64.encode (d.integral way)))) := rfl
  rw [e]
  cases hn : (FloatKind.f64.decode x).isNaN
  · rw [can_num hn]
    refine ⟨integralF way x, 0, ?_, can_num ?_, Ieee.double.write_lt _⟩
    · cases e : FloatKind.f64.decode x with
      | nan s t => rw [e] at hn; cases hn
      | number s m p => show _ = Result.ok (Value.float .f64 (FloatKind.f64.encode ((FloatKind.f64.decode x).integral way))) w; rw [e]; rfl
      | infinity s => show _ = Result.ok (Value.float .f64 (FloatKind.f64.encode ((FloatKind.f64.decode x).integral way))) w; rw [e]; rfl
    · show (Ieee.double.read (integralF way x)).isNaN = false
      exact write_not_nan _ (integral_not_nan hn)
  · rw [can_nan hn]
    cases e : FloatKind.f64.decode x with
    | number => rw [e] at hn; cases hn
    | infinity => rw [e] at hn; cases hn
    | nan s t =>
      simp only
      split
      · exact ⟨x, 0, rfl, can_nan hn, hx⟩
      · have key : ∀ k : Nat, FIs .f64 (if k = 1 then x else FloatKind.f64.encode (.nan s (FloatKind.f64.format.quiet t))) none := by
          intro k
          split
          · exact ⟨can_nan hn, hx⟩
          · exact ⟨can_nan (quiet_nan s t), Ieee.double.write_lt _⟩
        refine ⟨_, 1, ?_, key (Question.cut (.extern "math.Floor,Ceil,Trunc,RoundToEven.signallingNaN kept" 2) (w.tape w.drawn (.extern "math.Floor,Ceil,Trunc,RoundToEven.signallingNaN kept" 2)))⟩
        simp [choose, Question.forced, Sem.run, World.drewN]

/-- What says what the base symbols say. -/
def Base (Φ : Syms) : Prop := ∀ s j l, s < 10 → j < 64 → Φ (s * 64 + j) l = baseSyms s j l

abbrev oneB (f : FuncId) (sym : Nat) (k : FloatKind) : Opq := { f := f, sym := sym, args := [.one (.f k)], res := .p (.one .b) }
abbrev oneF (f : FuncId) (sym : Nat) (k : FloatKind) : Opq := { f := f, sym := sym, args := [.one (.f k)], res := .p (.one (.f k)) }

theorem o_l01Finite {Φ : Syms} (H : Base Φ) : OpqOK Try.prog Φ (oneB 127 1 .f32) := by
  intro vs ins w h
  obtain ⟨v, x, rfl, rfl, r, rfl, hr⟩ := one_arg h
  refine (c_l01Finite r w).mono ?_
  rintro e w' ⟨rfl, hw⟩
  refine ⟨_, rfl, ⟨_, rfl, ?_⟩, hw⟩
  rw [H 1 0 _ (by decide) (by decide), hr.out]; rfl

theorem o_isFinite {Φ : Syms} (H : Base Φ) : OpqOK Try.prog Φ (oneB 54 1 .f32) := by
  intro vs ins w h
  obtain ⟨v, x, rfl, rfl, r, rfl, hr⟩ := one_arg h
  refine (c_isFinite r w).mono ?_
  rintro e w' ⟨rfl, hw⟩
  refine ⟨_, rfl, ⟨_, rfl, ?_⟩, hw⟩
  rw [H 1 0 _ (by decide) (by decide), hr.out]; rfl

theorem o_l01Root {Φ : Syms} (H : Base Φ) : OpqOK Try.prog Φ (oneF 118 2 .f32) := by
  intro vs ins w h
  obtain ⟨v, x, rfl, rfl, r, rfl, hr⟩ := one_arg h
  refine (c_l01Root r w).mono ?_
  rintro e w' ⟨v, rfl, ⟨y, rfl, hy⟩, hw⟩
  refine ⟨_, rfl, ⟨_, rfl, y, rfl, hy.of_eq ?_⟩, hw⟩
  rw [H 2 0 _ (by decide) (by decide), hr.out]; rfl

theorem o_rootOf {Φ : Syms} (H : Base Φ) : OpqOK Try.prog Φ (oneF 169 2 .f32) := by
  intro vs ins w h
  obtain ⟨v, x, rfl, rfl, r, rfl, hr⟩ := one_arg h
  refine (c_rootOf r w).mono ?_
  rintro e w' ⟨v, rfl, ⟨y, rfl, hy⟩, hw⟩
  refine ⟨_, rfl, ⟨_, rfl, y, rfl, hy.of_eq ?_⟩, hw⟩
  rw [H 2 0 _ (by decide) (by decide), hr.out]; rfl

theorem o_sizeOf {Φ : Syms} (H : Base Φ) : OpqOK Try.prog Φ (oneF 101 3 .f32) := by
  intro vs ins w h
  obtain ⟨v, x, rfl, rfl, r, rfl, hr⟩ := one_arg h
  refine (c_sizeOf r w).mono ?_
  rintro e w' ⟨y, rfl, hy, hw⟩
  refine ⟨_, rfl, ⟨_, rfl, y, rfl, hy.of_eq ?_⟩, hw⟩
  rw [H 3 0 _ (by decide) (by decide), hr.out]; rfl

theorem o_Sqrt {Φ : Syms} (H : Base Φ) : OpqOK Try.prog Φ (oneF 147 4 .f64) := by
  intro vs ins w h
  obtain ⟨v, x, rfl, rfl, r, rfl, hr⟩ := one_arg h
  refine (c_Sqrt r w).mono ?_
  rintro e w' ⟨y, rfl, hy, hw⟩
  refine ⟨_, rfl, ⟨_, rfl, y, rfl, hy.of_eq ?_⟩, hw⟩
  rw [H 4 0 _ (by decide) (by decide), hr.out]; rfl

set_option maxHeartbeats 2000000 in
set_option maxRecDepth 100000 in
theorem c_Floor (x : Nat) (w : World) (hx : x < 2 ^ 64) :
    Calls Try.prog 84 #[.float .f64 x] w fun en w' => ∃ y, en = .returned (.float .f64 y) ∧ FIs .f64 y ((can .f64 x).map (integralF .down)) ∧ Stays w w' := by
  obtain ⟨r, n, hrun, hr⟩ := run_integral "math.archFloor" .down x w hx
  have hrun' : (callFunc 128 #[.float .f64 x]).run Try.prog w = .ok (.value (.float .f64 r)) (w.drewN n) := by
    rw [run_callFunc_extern (P := Try.prog) (e := Extern.MathFloor.toIntegral "math.archFloor" .down) Try.func128 (by kernel_rfl) (by kernel_rfl) (by kernel_rfl) (by kernel_rfl) #[.float .f64 x] w, hrun]
    rfl
  go_enter Try.func84, Try.ntmps84
  go_wp2_with fail
  go_ret
  exact ⟨_, rfl, hr, by (repeat (first | exact Stays.refl _ | (with_reducible refine Stays.drewN ?_ _) | (with_reducible refine Stays.alloc ?_ _) | (with_reducible refine Stays.drew ?_) | (refine Stays.trans ?_ ‹Stays _ _›)))⟩

theorem o_Floor {Φ : Syms} (H : Base Φ) : OpqOK Try.prog Φ (oneF 84 8 .f64) := by
  intro vs ins w h
  obtain ⟨v, x, rfl, rfl, r, rfl, hr⟩ := one_arg h
  refine (c_Floor r w hr.lt).mono ?_
  rintro e w' ⟨y, rfl, hy, hw⟩
  refine ⟨_, rfl, ⟨_, rfl, y, rfl, hy.of_eq ?_⟩, hw⟩
  rw [H 8 0 _ (by decide) (by decide), hr.out]; rfl

theorem o_frombits32 {Φ : Syms} (_ : Base Φ) : OpqOK Try.prog Φ { f := 186, sym := 0, args := [], res := .p (.one .b), ext := 1 } := by
  show ExtOK Try.prog _
  intro n w hn
  show (callFunc 186 #[.int .u32 n]).run Try.prog w = .ok (.value (.float .f32 n)) w
  have e : Extern.MathFloatBits.float32frombits #[.int .u32 n] = pure (.float .f32 (n : Int).toNat) := rfl
  rw [run_callFunc_extern (P := Try.prog) (e := Extern.MathFloatBits.float32frombits) Try.func186 (by kernel_rfl) (by kernel_rfl) (by kernel_rfl) (by kernel_rfl) #[.int .u32 n] w, e]
  rfl

theorem o_frombits64 {Φ : Syms} (_ : Base Φ) : OpqOK Try.prog Φ { f := 162, sym := 0, args := [], res := .p (.one .b), ext := 2 } := by
  show ExtOK Try.prog _
  intro n w hn
  show (callFunc 162 #[.int .u64 n]).run Try.prog w = .ok (.value (.float .f64 n)) w
  have e : Extern.MathFloatBits.float64frombits #[.int .u64 n] = pure (.float .f64 (n : Int).toNat) := rfl
  rw [run_callFunc_extern (P := Try.prog) (e := Extern.MathFloatBits.float64frombits) Try.func162 (by kernel_rfl) (by kernel_rfl) (by kernel_rfl) (by kernel_rfl) #[.int .u64 n] w, e]
  rfl

theorem o_Abs {Φ : Syms} (H : Base Φ) : OpqOK Try.prog Φ (oneF 138 5 .f64) := by
  intro vs ins w h
  obtain ⟨v, x, rfl, rfl, r, rfl, hr⟩ := one_arg h
  refine (c_Abs r w hr.lt).mono ?_
  rintro e w' ⟨y, rfl, hy, hw⟩
  refine ⟨_, rfl, ⟨_, rfl, y, rfl, hy.of_eq ?_⟩, hw⟩
  rw [H 5 0 _ (by decide) (by decide), hr.out]; rfl

theorem o_l01Same {Φ : Syms} (H : Base Φ) : OpqOK Try.prog Φ { f := 144, sym := 6, args := [.one (.f .f32), .one (.f .f32)], res := .p (.one .b) } := by
  intro vs ins w h
  obtain ⟨v, x, v2, x2, rfl, rfl, ⟨r, rfl, hr⟩, ⟨r2, rfl, hr2⟩⟩ := two_args h
  refine (c_l01Same r r2 w).mono ?_
  rintro e w' ⟨rfl, rfl⟩
  refine ⟨_, rfl, ⟨_, rfl, ?_⟩, Stays.refl w⟩
  rw [H 6 0 _ (by decide) (by decide)]
  show Value.bool (same r r2) = .bool (x.gf == x2.gf)
  unfold same
  rw [hr.out, hr2.out]

theorem o_numberBits {Φ : Syms} (H : Base Φ) : OpqOK Try.prog Φ { f := 192, sym := 7, args := [.one (.f .f32)], res := .p (.one (.i .u32)) } := by
  intro vs ins w h
  obtain ⟨v, x, rfl, rfl, r, rfl, hr⟩ := one_arg h
  refine (c_numberBits r w).mono ?_
  rintro e w' ⟨rfl, rfl⟩
  refine ⟨_, rfl, ⟨_, rfl, ?_⟩, Stays.refl w⟩
  rw [H 7 0 _ (by decide) (by decide)]
  show Value.int .u32 (bitsOf r) = .int .u32 _
  unfold bitsOf
  rw [hr.out]; rfl

theorem o_sameFloat {Φ : Syms} (H : Base Φ) : OpqOK Try.prog Φ { f := 56, sym := 0, args := [.one (.f .f64)], res := .p (.one .b), same := true } := by
  intro s v1 v2 ins w hs h1 h2
  cases hs
  obtain ⟨x, rfl, r1, rfl, hr1⟩ := h1
  obtain ⟨y, hy, r2, rfl, hr2⟩ := h2
  cases hy
  exact c_sameFloat r1 r2 w (hr1.out.trans hr2.out.symm)
end Go.Proofs.Ytcopccniijkceaa
