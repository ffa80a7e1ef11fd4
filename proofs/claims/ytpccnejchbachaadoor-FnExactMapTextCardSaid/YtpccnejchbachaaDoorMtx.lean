/- The line of a mark: signed numbers on the document's side, the line on the program's. Condition (the program's side): the library's table of powers of ten lies in memory. A strings.Builder and what it holds: for seats without grids. A map's text: the document's side. A map's text: the program's side. Condition: the library's table of powers of ten lies in memory. A map's text: the document's side, the loops. Texts of maps: the document's function, the law; maps opened with the ranges of their cells. Condition: the library's table of powers of ten lies in memory. No condition. -/
import Derived.Test.YtpccnejchbachaaDoorDb
import Derived.Test.YtpccnejchbachaaDoorHy
import Derived.Test.YtpccnejchbachaaDoorSv
import Derived.Test.YtpccnejchbachaaDoorGv
import Derived.Test.YtpccnejchbachaaDoorSh
import Derived.Test.YtpccnejchbachaaDoorNb
import Derived.Test.YtpccnejchbachaaDoorNa
import Derived.Deep.RegionHeld
namespace Go.Proofs.YtpccnejchbachaaDoor
open Go Go.ChangeShapes Go.WideShapes Go.RowKit
set_option linter.unusedVariables false
set_option linter.unusedSimpArgs false

def In32 (x : Int) : Prop := -2147483648 ≤ x ∧ x ≤ 2147483647

set_option maxRecDepth 100000 in
theorem c_l05Signed (n : Int) (w : World) (h0 : -1000000000000 ≤ n) (h1 : n ≤ 1000000000000) :
    Calls Tryd.prog 54 #[.int .i64 n] w fun e w' => e = .returned (.string (itoaS n)) ∧ Stays w w' := by
  by_cases h : n < 0
  · obtain ⟨m, rfl⟩ : ∃ m : Nat, n = -(m : Int) := ⟨n.natAbs, by omega⟩
    have hT := itoaS_neg m (by omega)
    have kD := Lib.hid fun W => c_Decimal m W (by omega)
    have hlen := decS_len (n := m) (by omega)
    have hm : (⟨#[45]⟩ : ByteArray).size = 1 := rfl
    have p1 := fun W => run_string_add_sum (P := Tryd.prog) W ⟨#[45]⟩ (decS m) (by omega)
    generalize decS m = T at kD p1 hT
    rw [hT]
    have hneg : IntKind.i64.wrap (- -(m : Int)) = (m : Int) := by rw [Int.neg_neg]; exact IntWalk.i64_in _ (by omega)
    have hneg2 : IntKind.i64.wrap (m : Int) = (m : Int) := IntWalk.i64_in _ (by omega)
    clear hT hlen hm h0 h1
    go_enter Tryd.func54, Tryd.ntmps54
    go_wp2_with fail
    refine (kD.out _).mono ?_
    rintro e w1 ⟨rfl, hb⟩
    replace hb := Lib.hid hb
    go_wp2
    go_ret
    exact ⟨rfl, hb.out⟩
  · obtain ⟨m, rfl⟩ := Int.eq_ofNat_of_zero_le (show 0 ≤ n by omega)
    have hT := itoaS_nonneg m
    have kD := Lib.hid fun W => c_Decimal m W (by omega)
    generalize decS m = T at kD hT
    rw [hT]
    clear hT h0 h1
    go_enter Tryd.func54, Tryd.ntmps54
    go_wp2_with fail
    refine (kD.out _).mono ?_
    rintro e w1 ⟨rfl, hb⟩
    replace hb := Lib.hid hb
    go_wp2
    go_ret
    exact ⟨rfl, hb.out⟩

def markT (x y z : Int) (a b c d : Nat) (s l : Int) : ByteArray := ⟨(Lib.join ([itoaS x, itoaS y, itoaS z, rowT [a, b, c], hexT (bitsOf d), itoaS s, itoaS l].map (·.data.toList)) [32]).toArray⟩ ++ ⟨#[10]⟩

theorem join7 (a b c d e f g s : List UInt8) : Lib.join [a, b, c, d, e, f, g] s = a ++ (s ++ (b ++ (s ++ (c ++ (s ++ (d ++ (s ++ (e ++ (s ++ (f ++ (s ++ g))))))))))) := by simp [Lib.join, List.intercalate]
theorem row3_size' (a b c : Nat) : (rowT [a, b, c]).size ≤ 27 := rowT_size [a, b, c] 3 (by simp)

/-- What the calls in a mark's line give. -/
def markS_ (T4 T5 : ByteArray) (f : FuncId) (args : Array Value) (v : Value) : Prop :=
  (f = 24 → ∀ n : Int, args = #[.int .i64 n] → v = .string (itoaS n)) ∧ (f = 62 → v = .string T4) ∧ (f = 31 → v = .string T5)

set_option maxRecDepth 100000 in
set_option maxHeartbeats 4000000 in
theorem c_markText (x y z : Int) (a b c d : Nat) (s l : Int) (w : World) (hxi : In32 x) (hyi : In32 y) (hzi : In32 z) (hs : 0 ≤ s ∧ s ≤ 1000000000000) (hl : 0 ≤ l ∧ l ≤ 1000000000000) (hx : ∀ q ∈ [a, b, c], q < 4294967296) (hd : d < 4294967296) (hP : PowT w) :
    Calls Tryd.prog 32 #[.agg #[.int .i32 x, .int .i32 y, .int .i32 z, .float .f32 a, .float .f32 b, .float .f32 c, .float .f32 d, .int .i64 s, .int .i64 l]] w fun e w' => e = .returned (.string (markT x y z a b c d s l)) ∧ Stays w w' := by
  unfold In32 at hxi hyi hzi
  have hnew := heap_alloc_new w (.cells #[.int .i32 x, .int .i32 y, .int .i32 z, .float .f32 a, .float .f32 b, .float .f32 c, .float .f32 d, .int .i64 s, .int .i64 l] 81)
  obtain ⟨W0, hW0⟩ : ∃ W0, W0 = w.alloc (.cells #[.int .i32 x, .int .i32 y, .int .i32 z, .float .f32 a, .float .f32 b, .float .f32 c, .float .f32 d, .int .i64 s, .int .i64 l] 81) := ⟨_, rfl⟩
  rw [← hW0] at hnew
  have hst : Stays w W0 := by rw [hW0]; (repeat (first | exact Stays.refl _ | (with_reducible refine Stays.drewN ?_ _) | (with_reducible refine Stays.alloc ?_ _) | (with_reducible refine Stays.drew ?_) | (refine Stays.trans ?_ ‹Stays _ _›)))
  have hcells := fun W (hb : Stays W0 W) => (show W.cell? ⟨w.heap.size, 0, none⟩ = some (.int .i32 x) ∧ W.cell? ⟨w.heap.size, 1, none⟩ = some (.int .i32 y) ∧ W.cell? ⟨w.heap.size, 2, none⟩ = some (.int .i32 z) ∧ W.cell? ⟨w.heap.size, 3, none⟩ = some (.float .f32 a) ∧ W.cell? ⟨w.heap.size, 4, none⟩ = some (.float .f32 b) ∧ W.cell? ⟨w.heap.size, 5, none⟩ = some (.float .f32 c) ∧ W.cell? ⟨w.heap.size, 6, none⟩ = some (.float .f32 d) ∧ W.cell? ⟨w.heap.size, 7, none⟩ = some (.int .i64 s) ∧ W.cell? ⟨w.heap.size, 8, none⟩ = some (.int .i64 l) from ⟨row_of hb hnew 0, row_of hb hnew 1, row_of hb hnew 2, row_of hb hnew 3, row_of hb hnew 4, row_of hb hnew 5, row_of hb hnew 6, row_of hb hnew 7, row_of hb hnew 8⟩)
  have kN := fun (n : Int) (h0 : -9223372036854775808 ≤ n) (h1 : n ≤ 9223372036854775807) W (hb : Stays W0 W) => c_decimal n W h0 h1 (hP.on (hst.trans hb))
  have k1 := Lib.hid (kN x (by omega) (by omega))
  have k2 := Lib.hid (kN y (by omega) (by omega))
  have k3 := Lib.hid (kN z (by omega) (by omega))
  have k6 := Lib.hid (kN s (by omega) (by omega))
  have k7 := Lib.hid (kN l (by omega) (by omega))
  have k4 := Lib.hid fun W (hb : Stays W0 W) => c_VecTextI a b c W hx
  have k5 := Lib.hid (show ∀ W (hb : Stays W0 W), Calls Tryd.prog 31 #[.float .f32 d] W fun e w' => e = .returned (.string (hexT (bitsOf d))) ∧ Stays W w' from fun W hb => c_NumberText d W hd)
  have z1 := itoaS_len x (by omega) (by omega)
  have z2 := itoaS_len y (by omega) (by omega)
  have z3 := itoaS_len z (by omega) (by omega)
  have z6 := itoaS_len s (by omega) (by omega)
  have z7 := itoaS_len l (by omega) (by omega)
  have z4 := row3_size' a b c
  have z5 : (hexT (bitsOf d)).size = 8 := hexT_size _
  have w1 : IntKind.i64.wrap x = x := IntWalk.i64_in _ (by omega)
  have w2 : IntKind.i64.wrap y = y := IntWalk.i64_in _ (by omega)
  have w3 : IntKind.i64.wrap z = z := IntWalk.i64_in _ (by omega)
  have hLT : markT x y z a b c d s l = ⟨(Lib.join ([itoaS x, itoaS y, itoaS z, rowT [a, b, c], hexT (bitsOf d), itoaS s, itoaS l].map (·.data.toList)) [32]).toArray⟩ ++ ⟨#[10]⟩ := rfl
  generalize markT x y z a b c d s l = LT at hLT ⊢
  generalize hT1 : itoaS x = T1 at k1 z1 hLT
  generalize hT2 : itoaS y = T2 at k2 z2 hLT
  generalize hT3 : itoaS z = T3 at k3 z3 hLT
  generalize hT6 : itoaS s = T6 at k6 z6 hLT
  generalize hT7 : itoaS l = T7 at k7 z7 hLT
  generalize rowT [a, b, c] = T4 at k4 z4 hLT
  generalize hexT (bitsOf d) = T5 at k5 z5 hLT
  have hJl : (Lib.join ([T1, T2, T3, T4, T5, T6, T7].map (·.data.toList)) [32]).length ≤ 200 := by
    have q1 : T1.data.toList.length ≤ 21 := by rw [Array.length_toList]; exact z1
    have q2 : T2.data.toList.length ≤ 21 := by rw [Array.length_toList]; exact z2
    have q3 : T3.data.toList.length ≤ 21 := by rw [Array.length_toList]; exact z3
    have q4 : T4.data.toList.length ≤ 27 := by rw [Array.length_toList]; exact z4
    have q5 : T5.data.toList.length = 8 := by rw [Array.length_toList]; exact z5
    have q6 : T6.data.toList.length ≤ 21 := by rw [Array.length_toList]; exact z6
    have q7 : T7.data.toList.length ≤ 21 := by rw [Array.length_toList]; exact z7
    simp only [List.map_cons, List.map_nil, join7, List.length_append]
    have q8 : ([32] : List UInt8).length = 1 := rfl
    omega
  have hJ2 : Hid (∀ bk (W : World), (∀ (j : Nat) y, [T1, T2, T3, T4, T5, T6, T7][j]? = some y → W.cell? ⟨bk, 0 + j, none⟩ = some (.string y)) → bk < W.heap.size → Calls Tryd.prog 63 #[.slice (some ⟨bk, 0, none⟩) 7 7, .string ⟨#[32]⟩] W fun e w' => e = .returned (.string ⟨(Lib.join ([T1, T2, T3, T4, T5, T6, T7].map (·.data.toList)) [32]).toArray⟩) ∧ Below W.heap.size W w') := Lib.hid fun bk W h1 h2 => c_Join bk 0 7 [T1, T2, T3, T4, T5, T6, T7] ⟨#[32]⟩ W h1 h2 (by simp) (by simp) (Nat.le_trans hJl (by omega))
  generalize Lib.join ([T1, T2, T3, T4, T5, T6, T7].map (·.data.toList)) [32] = J at hJ2 hJl hLT
  have p1 := fun W => run_string_add_sum (P := Tryd.prog) W ⟨J.toArray⟩ ⟨#[10]⟩ (by
    have q : (⟨J.toArray⟩ : ByteArray).size = J.length := List.size_toArray
    have q2 : (⟨#[10]⟩ : ByteArray).size = 1 := rfl
    omega)
  have u1 := Lib.hid hT1
  have u2 := Lib.hid hT2
  have u3 := Lib.hid hT3
  have u6 := Lib.hid hT6
  have u7 := Lib.hid hT7
  replace hst := Lib.hid hst
  replace hLT := Lib.hid hLT
  clear hnew hx hd hP hxi hyi hzi hs hl hT1 hT2 hT3 hT6 hT7 z1 z2 z3 z4 z5 z6 z7 hJl kN
  go_enter Tryd.func32, Tryd.ntmps32
  go_wp2_with fail
  rw [← hW0]
  clear hW0
  refine wp_region_soft_tail 27 (Stays.refl _) (markS_ T4 T5) [] (by kernel_rfl) (by kernel_rfl) (fun _ h => by cases h) ?_
  simp only [List.take_succ_cons, List.take_zero, List.drop_succ_cons, List.drop_zero]
  repeat (first | ((with_reducible apply soft_detG); (case hwa => rfl); (case hA => rfl); (case h => (intro w1 hw1; have hc := hcells w1 hw1; go_simp; exact rfl)); go_simp) | ((with_reducible apply soft_callS (v := .string T1)); (case hwa => rfl); (case hA => rfl); (case h => (intro w1 hw1; have hc := hcells w1 hw1; go_simp; exact ⟨rfl, rfl⟩)); (case hc => (intro w1 hw1; with_reducible exact k1.out w1 hw1)); (case hS => exact ⟨fun _ n e => (by have e2 := congrArg (fun a : Array Value => a[0]?) e; simp at e2; rw [← e2, u1.out]), fun e => absurd e (by decide), fun e => absurd e (by decide)⟩); (case hu => exact fun u hu => (hu.1 rfl x rfl).trans (by rw [u1.out])); go_simp) | ((with_reducible apply soft_callS (v := .string T2)); (case hwa => rfl); (case hA => rfl); (case h => (intro w1 hw1; have hc := hcells w1 hw1; go_simp; exact ⟨rfl, rfl⟩)); (case hc => (intro w1 hw1; with_reducible exact k2.out w1 hw1)); (case hS => exact ⟨fun _ n e => (by have e2 := congrArg (fun a : Array Value => a[0]?) e; simp at e2; rw [← e2, u2.out]), fun e => absurd e (by decide), fun e => absurd e (by decide)⟩); (case hu => exact fun u hu => (hu.1 rfl y rfl).trans (by rw [u2.out])); go_simp) | ((with_reducible apply soft_callS (v := .string T3)); (case hwa => rfl); (case hA => rfl); (case h => (intro w1 hw1; have hc := hcells w1 hw1; go_simp; exact ⟨rfl, rfl⟩)); (case hc => (intro w1 hw1; with_reducible exact k3.out w1 hw1)); (case hS => exact ⟨fun _ n e => (by have e2 := congrArg (fun a : Array Value => a[0]?) e; simp at e2; rw [← e2, u3.out]), fun e => absurd e (by decide), fun e => absurd e (by decide)⟩); (case hu => exact fun u hu => (hu.1 rfl z rfl).trans (by rw [u3.out])); go_simp) | ((with_reducible apply soft_callS (v := .string T4)); (case hwa => rfl); (case hA => rfl); (case h => (intro w1 hw1; have hc := hcells w1 hw1; go_simp; exact ⟨rfl, rfl⟩)); (case hc => (intro w1 hw1; with_reducible exact k4.out w1 hw1)); (case hS => exact ⟨fun e => absurd e (by decide), fun _ => rfl, fun e => absurd e (by decide)⟩); (case hu => exact fun u hu => hu.2.1 rfl); go_simp) | ((with_reducible apply soft_callS (v := .string T5)); (case hwa => rfl); (case hA => rfl); (case h => (intro w1 hw1; have hc := hcells w1 hw1; go_simp; exact ⟨rfl, rfl⟩)); (case hc => (intro w1 hw1; with_reducible exact k5.out w1 hw1)); (case hS => exact ⟨fun e => absurd e (by decide), fun e => absurd e (by decide), fun _ => rfl⟩); (case hu => exact fun u hu => hu.2.2 rfl); go_simp) | ((with_reducible apply soft_callS (v := .string T6)); (case hwa => rfl); (case hA => rfl); (case h => (intro w1 hw1; have hc := hcells w1 hw1; go_simp; exact ⟨rfl, rfl⟩)); (case hc => (intro w1 hw1; with_reducible exact k6.out w1 hw1)); (case hS => exact ⟨fun _ n e => (by have e2 := congrArg (fun a : Array Value => a[0]?) e; simp at e2; rw [← e2, u6.out]), fun e => absurd e (by decide), fun e => absurd e (by decide)⟩); (case hu => exact fun u hu => (hu.1 rfl s rfl).trans (by rw [u6.out])); go_simp) | ((with_reducible apply soft_callS (v := .string T7)); (case hwa => rfl); (case hA => rfl); (case h => (intro w1 hw1; have hc := hcells w1 hw1; go_simp; exact ⟨rfl, rfl⟩)); (case hc => (intro w1 hw1; with_reducible exact k7.out w1 hw1)); (case hS => exact ⟨fun _ n e => (by have e2 := congrArg (fun a : Array Value => a[0]?) e; simp at e2; rw [← e2, u7.out]), fun e => absurd e (by decide), fun e => absurd e (by decide)⟩); (case hu => exact fun u hu => (hu.1 rfl l rfl).trans (by rw [u7.out])); go_simp))
  refine soft_nil ?_
  rintro w2 ⟨hw2, _⟩
  have hf2 := Lib.hid (Stays.trans hst.out hw2)
  clear hw2 hcells k1 k2 k3 k4 k5 k6 k7
  go_wp2_with fail
  refine (hJ2.out _ _ ?_ ?_).mono ?_
  · intro j y hj
    rw [Nat.zero_add]
    refine (cell_of_row _ _ j _ _ _ (heap_alloc_new w2 _)).trans ?_
    match j, hj with
    | 0, hj => cases hj; rfl
    | 1, hj => cases hj; rfl
    | 2, hj => cases hj; rfl
    | 3, hj => cases hj; rfl
    | 4, hj => cases hj; rfl
    | 5, hj => cases hj; rfl
    | 6, hj => cases hj; rfl
    | j + 7, hj => simp at hj
  · exact (Array.getElem?_eq_some_iff.1 (heap_alloc_new w2 _)).1
  rintro e w3 ⟨rfl, hb3⟩
  have hb := Lib.hid (hf2.out.trans ((show Stays w2 _ from by (repeat (first | exact Stays.refl _ | (with_reducible refine Stays.drewN ?_ _) | (with_reducible refine Stays.alloc ?_ _) | (with_reducible refine Stays.drew ?_) | (refine Stays.trans ?_ ‹Stays _ _›)))).trans (show Stays _ w3 from hb3)))
  clear hb3
  go_wp2
  go_ret
  exact ⟨congrArg (fun z => Ending.returned (Value.string z)) hLT.out.symm, hb.out⟩
end Go.Proofs.YtpccnejchbachaaDoor

namespace Go.Proofs.YtpccnejchbachaaDoor
open Go Go.ChangeShapes Go.WideShapes Go.RowKit
set_option linter.unusedVariables false
set_option linter.unusedSimpArgs false

/-- A builder that holds bytes. -/
def Bl (B b : Nat) (l : List UInt8) (w : World) : Prop := Lib.IsBuilder 70 5 B b (Lib.byteCells l) w ∧ B ≤ w.heap.size

theorem Bl.on {B b : Nat} {l : List UInt8} {w w' : World} (h : Bl B b l w) (hs : Stays w w') : Bl B b l w' := by
  obtain ⟨h1, h2⟩ := h
  have k : ∀ g, g < w.heap.size → w'.heap[g]? = w.heap[g]? := fun g hg => Below.block hs g hg
  have at_ : ∀ p, Lib.BuilderAt 70 5 B b p (Lib.byteCells l) w → Lib.BuilderAt 70 5 B b p (Lib.byteCells l) w' := by
    rintro p ⟨hB, v, hb, ⟨ho1, ho2⟩, hne⟩
    refine ⟨hB, v, (k b (Array.getElem?_eq_some_iff.1 hb).1).trans hb, ⟨ho1, ?_⟩, hne⟩
    rcases ho2 with h2 | ⟨g, cap, cur, hv, hb', hg, hr⟩
    · exact .inl h2
    · exact .inr ⟨g, cap, cur, hv, hb', (k g (Array.getElem?_eq_some_iff.1 hg).1).trans hg, hr⟩
  exact ⟨h1.elim (fun h => .inl (at_ _ h)) (fun h => .inr (at_ _ h)), Nat.le_trans h2 hs.size⟩

theorem Bl.new (w : World) : Bl w.heap.size w.heap.size [] (w.alloc (.cells #[.pointer none, .slice none 0 0] 70)) :=
  ⟨Lib.fresh_isBuilder _ _ w, by simp⟩

theorem c_String (B b : Nat) (l : List UInt8) (w : World) (h : Bl B b l w) :
    Calls Tryd.prog 33 #[.pointer (some ⟨b, 0, none⟩)] w fun e w' => e = .returned (.string ⟨l.toArray⟩) ∧ Below B w w' :=
  Any.Builder_String_any lays169 Builder_Extra_156 B b l w h.1 h.2

theorem c_WriteString (B b : Nat) (l : List UInt8) (s : ByteArray) (w : World) (h : Bl B b l w) (hl : l.length + s.size ≤ 100000) :
    Calls Tryd.prog 30 #[.pointer (some ⟨b, 0, none⟩), .string s] w fun e w' => e = .returned (.tuple #[.int .i64 s.size, .nilIface]) ∧ Bl B b (l ++ s.data.toList) w' ∧ Below B w w' := by
  refine (Any.Builder_WriteString lays166 Builder_Extra_156 B b (Lib.byteCells l) s w h.1 (by rw [show (Lib.byteCells l).length = l.length from List.length_map ..]; omega) h.2).mono ?_
  rintro e w' ⟨rfl, h1, h2⟩
  refine ⟨rfl, ⟨.inr ?_, Nat.le_trans h.2 h2.size⟩, h2⟩
  rw [show Lib.byteCells (l ++ s.data.toList) = Lib.byteCells l ++ Lib.strCells s from by simp [Lib.byteCells, Lib.strCells]]
  exact h1
end Go.Proofs.YtpccnejchbachaaDoor

namespace Go.Proofs.YtpccnejchbachaaDoor
open Go Go.ChangeShapes Go.WideShapes Go.RowKit
set_option linter.unusedVariables false
set_option linter.unusedSimpArgs false

def cwo (o : Option Nat) : Nat := o.getD 2143289344
theorem bits_cwo {x : Nat} {o : Option Nat} (h : FIs .f32 x o) : bitsOf x = bitsOf (cwo o) := by
  have hx := h.out
  unfold cwo
  cases o with
  | none =>
    unfold bitsOf
    rw [hx]
    show (2143289344 : Nat) = (can .f32 2143289344).getD 2143289344
    cases hc : can .f32 2143289344 with
    | none => rfl
    | some c => obtain ⟨rfl, _⟩ := can_some hc; rfl
  | some b =>
    obtain ⟨rfl, _⟩ := can_some hx
    rfl
theorem row_congr {a b c a' b' c' : Nat} (h1 : bitsOf a = bitsOf a') (h2 : bitsOf b = bitsOf b') (h3 : bitsOf c = bitsOf c') : rowT [a, b, c] = rowT [a', b', c'] := by
  unfold rowT rowL
  simp only [List.map_cons, List.map_nil, hexB8, h1, h2, h3]

def spW : ByteArray := ⟨#[32]⟩
def nlW : ByteArray := ⟨#[10]⟩
def map4 : ByteArray := ⟨#[109, 97, 112, 32]⟩
def markN (m : Mk) : ByteArray := markT m.x m.y m.z (cwo m.a) (cwo m.b) (cwo m.c) (cwo m.d) m.s m.l
def headT (o : Option Nat) : ByteArray := (map4 ++ hexT (bitsOf (cwo o))) ++ nlW
def mapT (o : Option Nat) (xs : List Mk) : Nat → ByteArray
  | 0 => headT o
  | k + 1 => match xs[k]? with
    | some m => mapT o xs k ++ markN m
    | none => mapT o xs k
theorem mapT_next {o : Option Nat} {xs : List Mk} {k : Nat} {m : Mk} (h : xs[k]? = some m) : mapT o xs (k + 1) = mapT o xs k ++ markN m := by
  rw [mapT, h]

/-- What is asked of a mark in a text: its cell's numbers are int32, its counts are small. -/
def Fit (m : Mk) : Prop := (In32 m.x ∧ In32 m.y ∧ In32 m.z) ∧ (0 ≤ m.s ∧ m.s ≤ 1000000000000) ∧ (0 ≤ m.l ∧ m.l ≤ 1000000000000)

theorem ba_toList (a b : ByteArray) : (a ++ b).data.toList = a.data.toList ++ b.data.toList := by simp
theorem ba_ext {a b : ByteArray} (h : a.data.toList = b.data.toList) : a = b := by
  obtain ⟨⟨x⟩⟩ := a
  obtain ⟨⟨y⟩⟩ := b
  have h : x = y := h
  rw [h]

def preL (L X Y Z : ByteArray) : Nat → ByteArray
  | 0 => L
  | 1 => L ++ (X ++ spW)
  | 2 => L ++ (X ++ spW) ++ (Y ++ spW)
  | _ => L ++ (X ++ spW) ++ (Y ++ spW) ++ (Z ++ spW)

theorem mark_sum (L : ByteArray) (x y z : Int) (a b c d : Nat) (s l : Int) : preL L (itoaS x) (itoaS y) (itoaS z) 3 ++ (rowT [a, b, c] ++ spW ++ hexT (bitsOf d) ++ spW ++ itoaS s ++ spW ++ itoaS l ++ nlW) = L ++ markT x y z a b c d s l := by
  apply ba_ext
  unfold markT preL
  generalize itoaS x = T1
  generalize itoaS y = T2
  generalize itoaS z = T3
  generalize itoaS s = T6
  generalize itoaS l = T7
  generalize rowT [a, b, c] = T4
  generalize hexT (bitsOf d) = T5
  have e2 : spW.data.toList = [32] := rfl
  have e3 : nlW.data.toList = [10] := rfl
  have e4 : (⟨#[10]⟩ : ByteArray).data.toList = [10] := rfl
  simp only [ba_toList, List.map_cons, List.map_nil, join7, e2, e3, e4, List.append_assoc]

theorem markT_size (x y z : Int) (a b c d : Nat) (s l : Int) (h1 : In32 x) (h2 : In32 y) (h3 : In32 z) (h4 : 0 ≤ s ∧ s ≤ 1000000000000) (h5 : 0 ≤ l ∧ l ≤ 1000000000000) : (markT x y z a b c d s l).size ≤ 200 := by
  have e := mark_sum ⟨#[]⟩ x y z a b c d s l
  have hs := congrArg ByteArray.size e
  unfold In32 at h1 h2 h3
  have z1 := itoaS_len x (by omega) (by omega)
  have z2 := itoaS_len y (by omega) (by omega)
  have z3 := itoaS_len z (by omega) (by omega)
  have z6 := itoaS_len s (by omega) (by omega)
  have z7 := itoaS_len l (by omega) (by omega)
  have z4 := row3_size' a b c
  have z5 : (hexT (bitsOf d)).size = 8 := hexT_size _
  have e1 : spW.size = 1 := rfl
  have e2 : nlW.size = 1 := rfl
  unfold preL at hs
  simp only [ByteArray.size_append] at hs
  have e3 : (⟨#[]⟩ : ByteArray).size = 0 := rfl
  omega

theorem mapT_size {o : Option Nat} {xs : List Mk} (h : ∀ m ∈ xs, Fit m) : ∀ k, (mapT o xs k).size ≤ 13 + 200 * k
  | 0 => by
    show (headT o).size ≤ _
    unfold headT
    have e1 : map4.size = 4 := rfl
    have e2 : nlW.size = 1 := rfl
    have e3 : (hexT (bitsOf (cwo o))).size = 8 := hexT_size _
    simp only [ByteArray.size_append]
    omega
  | k + 1 => by
    have ih := mapT_size (o := o) h k
    rw [mapT]
    split
    · rename_i m hm
      obtain ⟨⟨a1, a2, a3⟩, a4, a5⟩ := h m (List.mem_of_getElem? hm)
      have : (markN m).size ≤ 200 := markT_size _ _ _ _ _ _ _ _ _ a1 a2 a3 a4 a5
      rw [ByteArray.size_append]
      omega
    · omega

/-- A mark's cells and its line. -/
theorem mark_words {cs : List Value} {m : Mk} (h : KMs mkK cs m.ins) : ∃ ra rb rc rd : Nat, cs = [.int .i32 m.x, .int .i32 m.y, .int .i32 m.z, .float .f32 ra, .float .f32 rb, .float .f32 rc, .float .f32 rd, .int .i64 m.s, .int .i64 m.l] ∧ (∀ q ∈ [ra, rb, rc], q < 4294967296) ∧ rd < 4294967296 ∧ markT m.x m.y m.z ra rb rc rd m.s m.l = markN m := by
  obtain ⟨ra, rb, rc, rd, e, f1, f2, f3, f4⟩ := mk_row h
  refine ⟨ra, rb, rc, rd, e, fun q hq => ?_, f4.lt, ?_⟩
  · simp at hq
    rcases hq with rfl | rfl | rfl
    · exact f1.lt
    · exact f2.lt
    · exact f3.lt
  · unfold markN markT
    rw [row_congr (bits_cwo f1) (bits_cwo f2) (bits_cwo f3), bits_cwo f4]
end Go.Proofs.YtpccnejchbachaaDoor

namespace Go.Proofs.YtpccnejchbachaaDoor
open Go Go.ChangeShapes Go.WideShapes Go.RowKit
set_option linter.unusedVariables false
set_option linter.unusedSimpArgs false

def Cells32 (xs : List Mk) : Prop := ∀ m ∈ xs, In32 m.x ∧ In32 m.y ∧ In32 m.z
noncomputable def mapX (o : Option Nat) (xs : List Mk) : ByteArray := if mapOK o xs then mapT o xs xs.length else ⟨#[]⟩

theorem map_facts {o : Option Nat} {xs : List Mk} (h : mapOK o xs = true) (hc : Cells32 xs) : xs.length ≤ 200 ∧ ∀ m ∈ xs, Fit m := by
  unfold mapOK at h
  simp only [Bool.and_eq_true, decide_eq_true_eq] at h
  obtain ⟨⟨_, h1⟩, h2⟩ := h
  refine ⟨h1, fun m hm => ?_⟩
  obtain ⟨j, hj⟩ := List.getElem?_of_mem hm
  have hv := ((marksOK_iff.1 h2) j m hj).1
  unfold validB okTime at hv
  simp only [Bool.and_eq_true, decide_eq_true_eq] at hv
  obtain ⟨⟨_, h3⟩, h4⟩ := hv
  exact ⟨hc m hm, by omega, by omega⟩

theorem stays_below {a b c : World} {B : Nat} (h : Stays a b) (k : Below B b c) (hB : a.heap.size ≤ B) : Stays a c := Below.trans h (k.mono hB)
theorem ba_back (a : ByteArray) : (⟨a.data.toList.toArray⟩ : ByteArray) = a := by
  apply ba_ext
  simp
theorem ba_len (a : ByteArray) : a.data.toList.length = a.size := Array.length_toList

set_option maxRecDepth 100000 in
set_option maxHeartbeats 4000000 in
theorem c_implMapText (v : Value) (o : Option Nat) (xs : List Mk) (w : World) (h : MpV w w.heap.size v o xs) (hn : xs.length ≤ 1048576) (hc32 : Cells32 xs) (hP : PowT w) :
    Calls Tryd.prog 12 #[v] w fun e w' => e = .returned (.string (mapX o xs)) ∧ Stays w w' := by
  obtain ⟨sd, A, c, rfl, hf, h1⟩ := h.val
  have hbox := heap_alloc_new w (.cells #[.float .f32 sd, .slice A xs.length c] 36)
  have hst : Stays w (w.alloc (.cells #[.float .f32 sd, .slice A xs.length c] 36)) := by (repeat (first | exact Stays.refl _ | (with_reducible refine Stays.drewN ?_ _) | (with_reducible refine Stays.alloc ?_ _) | (with_reducible refine Stays.drew ?_) | (refine Stays.trans ?_ ‹Stays _ _›)))
  have HB := Lib.hid fun W (hb : Stays (w.alloc (.cells #[.float .f32 sd, .slice A xs.length c] 36)) W) => And.intro (row_of hb hbox 0) (row_of hb hbox 1)
  have kV := Lib.hid fun W (hb : Stays (w.alloc (.cells #[.float .f32 sd, .slice A xs.length c] 36)) W) => c_implValidMap (.agg #[.float .f32 sd, .slice A xs.length c]) o xs W (h.on (hst.trans hb)) hn
  have H1 := Lib.hid fun W (hb : Stays w W) => (h1.below hb).more (hb.size)
  replace hst := Lib.hid hst
  replace hP := Lib.hid hP
  clear hbox h h1
  unfold mapX
  cases hg : mapOK o xs with
  | false =>
    rw [hg] at kV
    clear hg
    simp only [Bool.false_eq_true, if_false]
    obtain ⟨q0, q1⟩ := HB.out _ (Stays.refl _)
    go_enter Tryd.func12, Tryd.ntmps12
    go_wp2_with fail
    refine (kV.out _ (Stays.refl _)).mono ?_
    rintro e w1 ⟨rfl, hb1⟩
    have hf := Lib.hid (hst.out.trans hb1)
    clear hb1 q0 q1
    go_wp2
    go_ret
    exact ⟨rfl, hf.out⟩
  | true =>
    rw [hg] at kV
    simp only [if_true]
    obtain ⟨hm2, hl⟩ := map_facts hg hc32
    have hPS := Lib.hid (mapT_size (o := o) hl)
    replace hl := Lib.hid hl
    have kN := Lib.hid (show ∀ W, Calls Tryd.prog 31 #[.float .f32 sd] W fun e w' => e = .returned (.string (hexT (bitsOf sd))) ∧ Stays W w' from fun W => c_NumberText sd W hf.lt)
    have hH : (map4 ++ hexT (bitsOf sd)) ++ nlW = mapT o xs 0 := by rw [bits_cwo hf]; rfl
    have z1 : (hexT (bitsOf sd)).size = 8 := hexT_size _
    have z2 : map4.size = 4 := rfl
    have z3 : nlW.size = 1 := rfl
    generalize hexT (bitsOf sd) = T0 at kN hH z1
    have p1 := fun W => run_string_add_sum (P := Tryd.prog) W map4 T0 (by omega)
    have p2 := fun W => run_string_add_sum (P := Tryd.prog) W (map4 ++ T0) nlW (by simp only [ByteArray.size_append]; omega)
    have hW4 : (⟨#[109, 97, 112, 32]⟩ : ByteArray) = map4 := rfl
    have hW1 : (⟨#[10]⟩ : ByteArray) = nlW := rfl
    have hsz0 : (map4 ++ T0 ++ nlW).size ≤ 100 := by simp only [ByteArray.size_append]; omega
    replace hH := Lib.hid hH
    clear hg hn hf hc32 z1 z2 z3
    obtain ⟨q0, q1⟩ := HB.out _ (Stays.refl _)
    go_enter Tryd.func12, Tryd.ntmps12
    go_wp2_with fail
    refine (kV.out _ (Stays.refl _)).mono ?_
    rintro e w1 ⟨rfl, hb1⟩
    replace hb1 := Lib.hid (show Stays (w.alloc (.cells #[.float .f32 sd, .slice A xs.length c] 36)) w1 from hb1)
    clear q0 q1
    have hbl := Lib.hid (Bl.new w1)
    have hb2 := Lib.hid (hb1.out.trans (show Stays w1 (w1.alloc (.cells #[.pointer none, .slice none 0 0] 70)) from by (repeat (first | exact Stays.refl _ | (with_reducible refine Stays.drewN ?_ _) | (with_reducible refine Stays.alloc ?_ _) | (with_reducible refine Stays.drew ?_) | (refine Stays.trans ?_ ‹Stays _ _›)))))
    have hB0 : Hid (w.heap.size ≤ w1.heap.size) := Lib.hid (hst.out.trans hb1.out).size
    have hB1 : Hid ((w.alloc (.cells #[.float .f32 sd, .slice A xs.length c] 36)).heap.size ≤ w1.heap.size) := Lib.hid hb1.out.size
    obtain ⟨q0, q1⟩ := HB.out _ hb2.out
    go_wp2_with fail
    refine (kN.out _).mono ?_
    rintro e w2 ⟨rfl, hbn⟩
    have hb3 := Lib.hid (hb2.out.trans hbn)
    replace hbl := Lib.hid (hbl.out.on hbn)
    clear hbn q0 q1 hb2
    go_wp2_with fail
    refine (c_WriteString w1.heap.size w1.heap.size [] (map4 ++ T0 ++ nlW) _ hbl.out (by simp only [List.length_nil]; omega)).mono ?_
    rintro e w3 ⟨rfl, hbl2, hbb⟩
    rw [hH.out] at hbl2
    replace hbl := Lib.hid (show Bl w1.heap.size w1.heap.size (mapT o xs 0).data.toList w3 from hbl2)
    have hs2 := Lib.hid (stays_below hb3.out hbb hB1.out)
    clear hbl2 hbb hb3 hb1 hsz0
    generalize w1.heap.size = B at hbl hB0 hB1 ⊢
    obtain ⟨q0, q1⟩ := HB.out _ hs2.out
    go_wp2
    clear q0 q1
    go_loopw [18] (fun i wr => ∃ k : Nat, k ≤ xs.length ∧ i = .int .i64 k ∧ Hid (Bl B B (mapT o xs k).data.toList wr) ∧ Hid (Stays (w.alloc (.cells #[.float .f32 sd, .slice A xs.length c] 36)) wr)) (fun i _ => xs.length - (intOf i).toNat)
    case atStart => exact ⟨0, Nat.zero_le _, rfl, hbl, hs2⟩
    case round =>
      clear hbl hs2
      obtain ⟨k, hk, rfl, hBl, hs⟩ := hrel
      obtain ⟨q0, q1⟩ := HB.out _ hs.out
      by_cases hlt : k < xs.length
      · obtain ⟨ad, rfl, hbl, hrow⟩ := (H1.out wr (hst.out.trans hs.out)) k xs[k] (List.getElem?_eq_getElem hlt)
        have hrk := List.getElem?_eq_getElem hlt
        obtain ⟨⟨f1, f2, f3⟩, f4, f5⟩ := hl.out xs[k] (List.getElem_mem hlt)
        have hms : (markN xs[k]).size ≤ 200 := markT_size _ _ _ _ _ _ _ _ _ f1 f2 f3 f4 f5
        generalize xs[k] = m at hrow hrk f1 f2 f3 f4 f5 hms
        obtain ⟨c0, c1, c2, c3, c4, c5, c6, c7, c8, hK, g0, g1, g2, g3, g4, g5, g6, g7, g8⟩ := mk_at hrow
        obtain ⟨ra, rb, rc, rd, ecs, hx, hd, hT⟩ := mark_words hK
        simp only [List.cons.injEq, and_true] at ecs
        obtain ⟨rfl, rfl, rfl, rfl, rfl, rfl, rfl, rfl, rfl⟩ := ecs
        have hnx := Lib.hid (show (mapT o xs (k + 1)).data.toList = (mapT o xs k).data.toList ++ (markN m).data.toList from by rw [← ba_toList]; exact congrArg (fun b : ByteArray => b.data.toList) (mapT_next hrk))
        have hsz : (mapT o xs k).data.toList.length + (markN m).size ≤ 100000 := by
          have h1 := hPS.out k
          rw [ba_len]; omega
        have kR := Lib.hid fun W (hp : PowT W) => c_markText m.x m.y m.z ra rb rc rd m.s m.l W f1 f2 f3 f4 f5 hx hd hp
        rw [hT] at kR
        generalize markN m = PN at hnx kR hsz
        generalize (mapT o xs k).data.toList = L at hnx hBl hsz
        have kW := Lib.hid fun W h => c_WriteString B B L PN W h hsz
        have hlt' : (k : Int) < (xs.length : Int) := by omega
        clear hK hrow hrk hx hsz hT hbl hd f1 f2 f3 f4 f5 hms
        go_wp2_with (first
          | (go_at_call 32; refine (kR.out _ (hP.out.on (hst.out.trans (hs.out.trans (show Stays wr _ from by (repeat (first | exact Stays.refl _ | (with_reducible refine Stays.drewN ?_ _) | (with_reducible refine Stays.alloc ?_ _) | (with_reducible refine Stays.drew ?_) | (refine Stays.trans ?_ ‹Stays _ _›)))))))).mono ?_; rintro e w4 ⟨rfl, hb4⟩; have hs4 := Lib.hid ((show Stays wr _ from by (repeat (first | exact Stays.refl _ | (with_reducible refine Stays.drewN ?_ _) | (with_reducible refine Stays.alloc ?_ _) | (with_reducible refine Stays.drew ?_) | (refine Stays.trans ?_ ‹Stays _ _›)))).trans hb4); clear hb4 q0 q1 g0 g1 g2 g3 g4 g5 g6 g7 g8)
          | (go_at_call 30; refine (kW.out _ (hBl.out.on hs4.out)).mono ?_; rintro e w5 ⟨rfl, hbl5, hb5⟩; have hs5 := Lib.hid (stays_below (hs.out.trans hs4.out) hb5 hB1.out); replace hbl5 := Lib.hid hbl5; clear hb5))
        go_round
        case rel => exact ⟨k + 1, by omega, by go_num, by rw [hnx.out]; exact hbl5, hs5⟩
        case measure => simp [intOf]; omega
      · have e : k = xs.length := by omega
        subst e
        have kS := Lib.hid (c_String B B _ wr hBl.out)
        clear q0 q1
        go_wp2_with fail
        refine kS.out.mono ?_
        rintro e w4 ⟨rfl, hb4⟩
        have hf : Hid (Stays w w4) := Lib.hid (stays_below (hst.out.trans hs.out) hb4 hB0.out)
        clear hb4
        go_wp2
        go_ret
        exact ⟨congrArg (fun z => Ending.returned (Value.string z)) (ba_back _), hf.out⟩
end Go.Proofs.YtpccnejchbachaaDoor

namespace Go.Proofs.YtpccnejchbachaaDoor
open Go Go.ChangeShapes Go.WideShapes Go.RowKit
set_option linter.unusedVariables false
set_option linter.unusedSimpArgs false

def mapS' (T4 T5 : ByteArray) (f : FuncId) (args : Array Value) (v : Value) : Prop :=
  (f = 21 → ∀ n : Nat, args = #[.int .i64 n] → v = .string (decS n)) ∧ (f = 55 → v = .string T4) ∧ (f = 53 → v = .string T5)

theorem preL_size (L X Y Z : ByteArray) (h1 : X.size ≤ 21) (h2 : Y.size ≤ 21) (h3 : Z.size ≤ 21) : ∀ k, (preL L X Y Z k).size ≤ L.size + 66 := by
  have e : spW.size = 1 := rfl
  intro k
  match k with
  | 0 => show L.size ≤ _; omega
  | 1 => show (L ++ (X ++ spW)).size ≤ _; simp only [ByteArray.size_append]; omega
  | 2 => show (L ++ (X ++ spW) ++ (Y ++ spW)).size ≤ _; simp only [ByteArray.size_append]; omega
  | k + 3 => show (L ++ (X ++ spW) ++ (Y ++ spW) ++ (Z ++ spW)).size ≤ _; simp only [ByteArray.size_append]; omega

set_option maxRecDepth 100000 in
set_option maxHeartbeats 4000000 in
theorem c_l05Text (p : Nat) (sd : Nat) (o : Option Nat) (hf : FIs .f32 sd o) (A : Option Addr) (c : Nat) (xs : List Mk) (w : World) (hg : w.heap[p]? = some (.cells #[.float .f32 sd, .slice A xs.length c] 36 (0, 0))) (h : Mks w w.heap.size A xs) (hm2 : xs.length ≤ 200) (hl : ∀ m ∈ xs, Fit m) :
    Calls Tryd.prog 27 #[.pointer (some ⟨p, 0, none⟩)] w fun e w' => e = .returned (.string (mapT o xs xs.length)) ∧ Stays w w' := by
  have H := Lib.hid h
  have HB := Lib.hid (boxed_all hg)
  have hPS := Lib.hid (mapT_size (o := o) hl)
  replace hl := Lib.hid hl
  have kN := Lib.hid (show ∀ W, Calls Tryd.prog 53 #[.float .f32 sd] W fun e w' => e = .returned (.string (hexT (bitsOf sd))) ∧ Stays W w' from fun W => c_l01Hex sd W hf.lt)
  have hH : (map4 ++ hexT (bitsOf sd)) ++ nlW = mapT o xs 0 := by rw [bits_cwo hf]; rfl
  have z1 : (hexT (bitsOf sd)).size = 8 := hexT_size _
  have z2 : map4.size = 4 := rfl
  have z3 : nlW.size = 1 := rfl
  generalize hexT (bitsOf sd) = T0 at kN hH z1
  have a1 := fun W => run_string_add_sum (P := Tryd.prog) W map4 T0 (by omega)
  have a2 := fun W => run_string_add_sum (P := Tryd.prog) W (map4 ++ T0) nlW (by simp only [ByteArray.size_append]; omega)
  have hW4 : (⟨#[109, 97, 112, 32]⟩ : ByteArray) = map4 := rfl
  have hW1 : (⟨#[10]⟩ : ByteArray) = nlW := rfl
  have hW3 : (⟨#[32]⟩ : ByteArray) = spW := rfl
  replace hH := Lib.hid hH
  clear h hg hf z1 z2 z3
  obtain ⟨q0, q1⟩ := HB.out _ (Stays.refl w)
  go_enter Tryd.func27, Tryd.ntmps27
  go_wp2_with fail
  refine (kN.out _).mono ?_
  rintro e w1 ⟨rfl, hb1⟩
  replace hb1 := Lib.hid hb1
  clear q0 q1
  obtain ⟨q0, q1⟩ := HB.out _ hb1.out
  go_wp2
  clear q0 q1
  go_loopw [3, 4] (fun v i wr => ∃ k : Nat, k ≤ xs.length ∧ i = .int .i64 k ∧ v = .string (mapT o xs k) ∧ Hid (Stays w wr)) (fun _ i _ => xs.length - (intOf i).toNat)
  case atStart => exact ⟨0, Nat.zero_le _, rfl, by rw [hH.out], hb1⟩
  case round =>
    clear hb1
    obtain ⟨k, hk, rfl, rfl, hb⟩ := hrel
    obtain ⟨q0, q1⟩ := HB.out _ hb.out
    by_cases hlt : k < xs.length
    · obtain ⟨ad, rfl, hbl, hrow⟩ := (H.out.below hb.out) k xs[k] (List.getElem?_eq_getElem hlt)
      have hrk := List.getElem?_eq_getElem hlt
      obtain ⟨⟨f1, f2, f3⟩, f4, f5⟩ := hl.out xs[k] (List.getElem_mem hlt)
      generalize xs[k] = m at hrow hrk f1 f2 f3 f4 f5
      obtain ⟨c0, c1, c2, c3, c4, c5, c6, c7, c8, hK, g0, g1, g2, g3, g4, g5, g6, g7, g8⟩ := mk_at hrow
      obtain ⟨ra, rb, rc, rd, ecs, hx, hd, hT⟩ := mark_words hK
      simp only [List.cons.injEq, and_true] at ecs
      obtain ⟨rfl, rfl, rfl, rfl, rfl, rfl, rfl, rfl, rfl⟩ := ecs
      have hqb : (ad.add (k * 9)).block < wr.heap.size := by rw [block_add]; have := hb.out.size; omega
      have hnx := Lib.hid (show mapT o xs (k + 1) = mapT o xs k ++ markN m from mapT_next hrk)
      have hsz : (mapT o xs k).size ≤ 50000 := by have h1 := hPS.out k; omega
      obtain ⟨sn, hsn⟩ : ∃ sn : Nat, m.s = sn := ⟨m.s.toNat, by omega⟩
      obtain ⟨ln, hln⟩ : ∃ ln : Nat, m.l = ln := ⟨m.l.toNat, by omega⟩
      have hsum := (mark_sum (mapT o xs k) m.x m.y m.z ra rb rc rd m.s m.l).trans (by rw [hT])
      rw [hsn, hln, itoaS_nonneg, itoaS_nonneg] at hsum
      rw [hsn] at g7 f4
      rw [hln] at g8 f5
      unfold In32 at f1 f2 f3
      have s1 := Lib.hid fun W => c_l05Signed m.x W (by omega) (by omega)
      have s2 := Lib.hid fun W => c_l05Signed m.y W (by omega) (by omega)
      have s3 := Lib.hid fun W => c_l05Signed m.z W (by omega) (by omega)
      have v1 : IntKind.i64.wrap m.x = m.x := IntWalk.i64_in _ (by omega)
      have v2 : IntKind.i64.wrap m.y = m.y := IntWalk.i64_in _ (by omega)
      have v3 : IntKind.i64.wrap m.z = m.z := IntWalk.i64_in _ (by omega)
      have k4 := Lib.hid fun W => c_VecTextS ra rb rc W hx
      have k5 := Lib.hid (show ∀ W, Calls Tryd.prog 53 #[.float .f32 rd] W fun e w' => e = .returned (.string (hexT (bitsOf rd))) ∧ Stays W w' from fun W => c_l01Hex rd W hd)
      have k6 := Lib.hid fun W => c_Decimal sn W (by omega)
      have k7 := Lib.hid fun W => c_Decimal ln W (by omega)
      have y1 := itoaS_len m.x (by omega) (by omega)
      have y2 := itoaS_len m.y (by omega) (by omega)
      have y3 := itoaS_len m.z (by omega) (by omega)
      have y4 := row3_size' ra rb rc
      have y5 : (hexT (bitsOf rd)).size = 8 := hexT_size _
      have y6 := decS_len (n := sn) (by omega)
      have y7 := decS_len (n := ln) (by omega)
      generalize itoaS m.x = X at s1 y1 hsum
      generalize itoaS m.y = Y at s2 y2 hsum
      generalize itoaS m.z = Z at s3 y3 hsum
      generalize rowT [ra, rb, rc] = T4 at k4 y4 hsum
      generalize hexT (bitsOf rd) = T5 at k5 y5 hsum
      generalize hT6 : decS sn = T6 at k6 y6 hsum
      generalize hT7 : decS ln = T7 at k7 y7 hsum
      generalize markN m = MN at hnx hsum
      generalize mapT o xs k = L at hnx hsz hsum ⊢
      have e1 : spW.size = 1 := rfl
      have e3 : nlW.size = 1 := rfl
      have hP3 := Lib.hid (preL_size L X Y Z y1 y2 y3)
      have b1 := fun W => run_string_add_sum (P := Tryd.prog) W X spW (by omega)
      have b2 := fun W => run_string_add_sum (P := Tryd.prog) W Y spW (by omega)
      have b3 := fun W => run_string_add_sum (P := Tryd.prog) W Z spW (by omega)
      have b4 : ∀ W : World, (Op.stringOp .add (preL L X Y Z 0) (X ++ spW)).run Tryd.prog W = .ok (.string (preL L X Y Z 1)) W := fun W => run_string_add_sum (P := Tryd.prog) W (preL L X Y Z 0) (X ++ spW) (by have := hP3.out 0; simp only [ByteArray.size_append]; omega)
      have b5 : ∀ W : World, (Op.stringOp .add (preL L X Y Z 1) (Y ++ spW)).run Tryd.prog W = .ok (.string (preL L X Y Z 2)) W := fun W => run_string_add_sum (P := Tryd.prog) W (preL L X Y Z 1) (Y ++ spW) (by have := hP3.out 1; simp only [ByteArray.size_append]; omega)
      have b6 : ∀ W : World, (Op.stringOp .add (preL L X Y Z 2) (Z ++ spW)).run Tryd.prog W = .ok (.string (preL L X Y Z 3)) W := fun W => run_string_add_sum (P := Tryd.prog) W (preL L X Y Z 2) (Z ++ spW) (by have := hP3.out 2; simp only [ByteArray.size_append]; omega)
      have p1 := fun W => run_string_add_sum (P := Tryd.prog) W T4 spW (by omega)
      have p2 := fun W => run_string_add_sum (P := Tryd.prog) W (T4 ++ spW) T5 (by simp only [ByteArray.size_append]; omega)
      have p3 := fun W => run_string_add_sum (P := Tryd.prog) W (T4 ++ spW ++ T5) spW (by simp only [ByteArray.size_append]; omega)
      have p4 := fun W => run_string_add_sum (P := Tryd.prog) W (T4 ++ spW ++ T5 ++ spW) T6 (by simp only [ByteArray.size_append]; omega)
      have p5 := fun W => run_string_add_sum (P := Tryd.prog) W (T4 ++ spW ++ T5 ++ spW ++ T6) spW (by simp only [ByteArray.size_append]; omega)
      have p6 := fun W => run_string_add_sum (P := Tryd.prog) W (T4 ++ spW ++ T5 ++ spW ++ T6 ++ spW) T7 (by simp only [ByteArray.size_append]; omega)
      have p7 := fun W => run_string_add_sum (P := Tryd.prog) W (T4 ++ spW ++ T5 ++ spW ++ T6 ++ spW ++ T7) nlW (by simp only [ByteArray.size_append]; omega)
      have p8 := fun W => run_string_add_sum (P := Tryd.prog) W (preL L X Y Z 3) (T4 ++ spW ++ T5 ++ spW ++ T6 ++ spW ++ T7 ++ nlW) (by have := hP3.out 3; simp only [ByteArray.size_append]; omega)
      have hlt' : (k : Int) < (xs.length : Int) := by omega
      have u6 := Lib.hid hT6
      have u7 := Lib.hid hT7
      replace hsum := Lib.hid hsum
      have hL0 := Lib.hid (show preL L X Y Z 0 = L from rfl)
      generalize preL L X Y Z = PL at b4 b5 b6 p8 hsum hL0
      have hC0 := Lib.hid fun W (hb' : Stays wr W) => (show W.cell? (ad.add (k * 9)) = some (.int .i32 m.x) ∧ W.cell? ⟨(ad.add (k * 9)).block, (ad.add (k * 9)).off + 1, none⟩ = some (.int .i32 m.y) ∧ W.cell? ⟨(ad.add (k * 9)).block, (ad.add (k * 9)).off + 2, none⟩ = some (.int .i32 m.z) ∧ W.cell? ⟨(ad.add (k * 9)).block, (ad.add (k * 9)).off + 3, none⟩ = some (.float .f32 ra) ∧ W.cell? ⟨(ad.add (k * 9)).block, (ad.add (k * 9)).off + 4, none⟩ = some (.float .f32 rb) ∧ W.cell? ⟨(ad.add (k * 9)).block, (ad.add (k * 9)).off + 5, none⟩ = some (.float .f32 rc) ∧ W.cell? ⟨(ad.add (k * 9)).block, (ad.add (k * 9)).off + 6, none⟩ = some (.float .f32 rd) ∧ W.cell? ⟨(ad.add (k * 9)).block, (ad.add (k * 9)).off + 7, none⟩ = some (.int .i64 (sn : Int)) ∧ W.cell? ⟨(ad.add (k * 9)).block, (ad.add (k * 9)).off + 8, none⟩ = some (.int .i64 (ln : Int)) from ⟨(Below.cell (p := ad.add (k * 9)) hb' hqb).trans g0, (Below.cell (p := ⟨(ad.add (k * 9)).block, (ad.add (k * 9)).off + 1, none⟩) hb' hqb).trans g1, (Below.cell (p := ⟨(ad.add (k * 9)).block, (ad.add (k * 9)).off + 2, none⟩) hb' hqb).trans g2, (Below.cell (p := ⟨(ad.add (k * 9)).block, (ad.add (k * 9)).off + 3, none⟩) hb' hqb).trans g3, (Below.cell (p := ⟨(ad.add (k * 9)).block, (ad.add (k * 9)).off + 4, none⟩) hb' hqb).trans g4, (Below.cell (p := ⟨(ad.add (k * 9)).block, (ad.add (k * 9)).off + 5, none⟩) hb' hqb).trans g5, (Below.cell (p := ⟨(ad.add (k * 9)).block, (ad.add (k * 9)).off + 6, none⟩) hb' hqb).trans g6, (Below.cell (p := ⟨(ad.add (k * 9)).block, (ad.add (k * 9)).off + 7, none⟩) hb' hqb).trans g7, (Below.cell (p := ⟨(ad.add (k * 9)).block, (ad.add (k * 9)).off + 8, none⟩) hb' hqb).trans g8⟩)
      clear hK hrow hrk hx hd hT hT6 hT7 y1 y2 y3 y4 y5 y6 y7 hsz e1 e3 hbl hqb g0 g1 g2 g3 g4 g5 g6 g7 g8 f1 f2 f3 f4 f5 hP3 hsn hln
      go_wp2
      generalize ad.add (k * 9) = q at hC0 ⊢
      clear q0 q1
      go_loopw [3, 6] (fun v i w2 => ∃ j : Nat, j ≤ 3 ∧ i = .int .i64 j ∧ v = .string (PL j) ∧ Hid (Stays wr w2)) (fun _ i _ => 3 - (intOf i).toNat)
      case atStart => exact ⟨0, by omega, rfl, by rw [hL0.out], Lib.hid (Stays.refl _)⟩
      case round =>
        obtain ⟨j, hj, rfl, rfl, hb2⟩ := hrel
        obtain ⟨h0, h1, h2, h3, h4, h5, h6, h7, h8⟩ := hC0.out _ hb2.out
        by_cases hj3 : j < 3
        · rcases (show j = 0 ∨ j = 1 ∨ j = 2 from by omega) with rfl | rfl | rfl
          · clear hj hj3
            go_wp2_with (go_at_call 54; refine (s1.out _).mono ?_; rintro e w4 ⟨rfl, hb4⟩; have hb5 := Lib.hid (hb2.out.trans hb4); clear hb4 h0 h1 h2 h3 h4 h5 h6 h7 h8)
            go_round
            case rel => exact ⟨1, by omega, rfl, rfl, hb5⟩
            case measure => simp [intOf]
          · clear hj hj3
            go_wp2_with (go_at_call 54; refine (s2.out _).mono ?_; rintro e w4 ⟨rfl, hb4⟩; have hb5 := Lib.hid (hb2.out.trans hb4); clear hb4 h0 h1 h2 h3 h4 h5 h6 h7 h8)
            go_round
            case rel => exact ⟨2, by omega, rfl, rfl, hb5⟩
            case measure => simp [intOf]
          · clear hj hj3
            go_wp2_with (go_at_call 54; refine (s3.out _).mono ?_; rintro e w4 ⟨rfl, hb4⟩; have hb5 := Lib.hid (hb2.out.trans hb4); clear hb4 h0 h1 h2 h3 h4 h5 h6 h7 h8)
            go_round
            case rel => exact ⟨3, by omega, rfl, rfl, hb5⟩
            case measure => simp [intOf]
        · have e : j = 3 := by omega
          subst e
          clear hj hj3 h0 h1 h2 h3 h4 h5 h6 h7 h8
          go_wp2_with fail
          have hcells := fun W (hb' : Stays wr W) => hC0.out W (hb2.out.trans hb')
          refine wp_region_soft_tail 29 (Stays.refl _) (mapS' T4 T5) [] (by kernel_rfl) (by kernel_rfl) (fun _ h => by cases h) ?_
          simp only [List.take_succ_cons, List.take_zero, List.drop_succ_cons, List.drop_zero]
          repeat (first | ((with_reducible apply soft_detG); (case hwa => rfl); (case hA => rfl); (case h => (intro w1 hw1; have hc := hcells w1 hw1; go_simp; exact rfl)); go_simp) | ((with_reducible apply soft_callS (v := .string T4)); (case hwa => rfl); (case hA => rfl); (case h => (intro w1 hw1; have hc := hcells w1 hw1; go_simp; exact ⟨rfl, rfl⟩)); (case hc => (intro w1 hw1; with_reducible exact k4.out w1)); (case hS => exact ⟨fun e => absurd e (by decide), fun _ => rfl, fun e => absurd e (by decide)⟩); (case hu => exact fun u hu => hu.2.1 rfl); go_simp) | ((with_reducible apply soft_callS (v := .string T5)); (case hwa => rfl); (case hA => rfl); (case h => (intro w1 hw1; have hc := hcells w1 hw1; go_simp; exact ⟨rfl, rfl⟩)); (case hc => (intro w1 hw1; with_reducible exact k5.out w1)); (case hS => exact ⟨fun e => absurd e (by decide), fun e => absurd e (by decide), fun _ => rfl⟩); (case hu => exact fun u hu => hu.2.2 rfl); go_simp) | ((with_reducible apply soft_callS (v := .string T6)); (case hwa => rfl); (case hA => rfl); (case h => (intro w1 hw1; have hc := hcells w1 hw1; go_simp; exact ⟨rfl, rfl⟩)); (case hc => (intro w1 hw1; with_reducible exact k6.out w1)); (case hS => exact ⟨fun _ n e => (by have e2 := congrArg (fun a : Array Value => a[0]?) e; simp at e2; have e3 : sn = n := (by omega); rw [← e3, u6.out]), fun e => absurd e (by decide), fun e => absurd e (by decide)⟩); (case hu => exact fun u hu => (hu.1 rfl sn rfl).trans (by rw [u6.out])); go_simp) | ((with_reducible apply soft_callS (v := .string T7)); (case hwa => rfl); (case hA => rfl); (case h => (intro w1 hw1; have hc := hcells w1 hw1; go_simp; exact ⟨rfl, rfl⟩)); (case hc => (intro w1 hw1; with_reducible exact k7.out w1)); (case hS => exact ⟨fun _ n e => (by have e2 := congrArg (fun a : Array Value => a[0]?) e; simp at e2; have e3 : ln = n := (by omega); rw [← e3, u7.out]), fun e => absurd e (by decide), fun e => absurd e (by decide)⟩); (case hu => exact fun u hu => (hu.1 rfl ln rfl).trans (by rw [u7.out])); go_simp))
          refine soft_nil ?_
          rintro w6 ⟨hw6, _⟩
          have hb6 := Lib.hid (hb.out.trans (hb2.out.trans (show Stays _ w6 from hw6)))
          clear hw6 hcells
          go_wp2
          go_round
          case rel => exact ⟨k + 1, by omega, by go_num, by rw [hnx.out, ← hsum.out], hb6⟩
          case measure => simp [intOf]; omega
    · have e : k = xs.length := by omega
      subst e
      go_wp2
      go_ret
      exact ⟨rfl, hb.out⟩
end Go.Proofs.YtpccnejchbachaaDoor

namespace Go.Proofs.YtpccnejchbachaaDoor
open Go Go.ChangeShapes Go.WideShapes Go.RowKit
set_option linter.unusedVariables false
set_option linter.unusedSimpArgs false

theorem trod_rowsG {H : Type} {enc : TypeId × Value → H} {w : World} {held : Bool} {ts te : TypeId} {K : List Kd} {n : Nat} (hu : Tryd.prog.underlying ts = some (.slice te)) (hn : K.length = n) (h0 : 0 < n) (hC : Tryd.prog.cellsOf te = n) (hS : scalK Tryd.prog 12 te = some K)
    {fuel : Nat} {cs : List Value} {x : DataW H × List MemPlace} (h : DataW.trod enc Tryd.prog w 0 (fun _ => true) held fuel ts cs = some x) : ∃ (A : Option Addr) (xs : List (List NV)) (c : Nat), cs = [.slice A xs.length c] ∧ Ls K n w w.heap.size A xs ∧ xs.length ≤ 9223372036854775807 ∧ ∀ (i : Nat) (r : List NV), xs[i]? = some r → RGs K r := by
  rcases Deep.open_slice hu h with ⟨h0, _⟩ | ⟨a, len, cap, m, nn, D, Pl, hcs, hb, hl, hm, hmm, hx, hi⟩
  · exact ⟨none, [], 0, h0, fun i r hr => by simp at hr, by simp, fun i r hr => by simp at hr⟩
  · obtain ⟨rs, hrs, hp⟩ := pick (p := fun i (r : List NV) => (a.block < w.heap.size ∧ RowAt K w (a.add (i * n)) r) ∧ RGs K r) len (by
      intro i hil
      have him : i < m := by rw [hmm]; simp; omega
      obtain ⟨cs', hc, ht⟩ := hi i him
      rw [hC] at hc
      obtain ⟨ins, hk, hrg⟩ := trod_scal 12 _ _ _ _ _ hS ht
      obtain ⟨_, hcl, hat⟩ := World.cells?_some hc
      have hat' : ∀ j u, cs'[j]? = some u → w.cell? (cellAt (a.add (i * n)) j) = some u := fun j u hu => by
        have hj := (List.getElem?_eq_some_iff.1 hu).1
        have g := hat j (by omega)
        rw [hu] at g
        cases j with
        | zero => exact g
        | succ j => exact g
      have hlt := World.block_lt_of_cell? _ _ (hat' 0 cs'[0] (List.getElem?_eq_getElem (by omega)))
      have e : (cellAt (a.add (i * n)) 0).block = a.block := block_add a (i * n)
      rw [e] at hlt
      exact ⟨ins, ⟨hlt, cs', hk, hat'⟩, hrg⟩)
    refine ⟨some a, rs, cap, by rw [hcs, hrs], fun i r hr => ?_, by rw [hrs]; unfold maxLen at hm; omega, fun i r hr => (hp i r hr).2⟩
    exact ⟨a, rfl, (hp i r hr).1⟩

theorem in32_of {n : Int} (h : (Lit.int .i32 n).wf = true) : In32 n := by
  have h : (decide (IntKind.i32.min ≤ n) && decide (n ≤ IntKind.i32.max)) = true := h
  simp only [Bool.and_eq_true, decide_eq_true_eq] at h
  exact h

set_option maxRecDepth 100000 in
/-- An argument that is a map, opened, with the ranges of its cells' numbers. -/
theorem open_mapR {H : Type} {enc : TypeId × Value → H} {w : World} {held : Bool} {r : Reach} {b0 : Nat} {v : Value} {d : DataW H} {p : List MemPlace} (hval : Value.okWide Tryd.prog w r b0 31 v)
    (h : DataW.Trod enc Tryd.prog w 0 (fun _ => true) held 31 v d p) : ∃ o xs, MpV w w.heap.size v o xs ∧ xs.length ≤ 9223372036854775807 ∧ Cells32 xs := by
  obtain ⟨v0, v1, y0, y1, n, rfl, _, _, h0, h1⟩ := Joins.open_agg2 Tryd.underlying31 (by kernel_rfl) (by kernel_rfl) hval h
  obtain ⟨ins, hk, _⟩ := trod_scal 12 28 [.f .f32] n [v0] y0 (by kernel_rfl) h0
  obtain ⟨A', ls, c', e1, l1, b1, rg⟩ := trod_rowsG (K := mkK) Tryd.underlying29 rfl (by decide) (by kernel_rfl) (by kernel_rfl) h1
  cases e1
  match ins, hk with
  | [n0], ⟨⟨x, hx, hf⟩, _⟩ =>
    subst hx
    refine ⟨n0.gf, ls.map mkOf, ⟨x, A', c', by rw [List.length_map], hf, rows_mks l1⟩, by rw [List.length_map]; exact b1, fun m hm => ?_⟩
    obtain ⟨r, hr, rfl⟩ := List.mem_map.1 hm
    obtain ⟨i, hi, he⟩ := List.getElem_of_mem hr
    have hg := rg i r (by rw [List.getElem?_eq_getElem hi, he])
    match r, hg with
    | a :: b :: c :: _, ⟨h0, h1, h2, _⟩ => exact ⟨in32_of h0, in32_of h1, in32_of h2⟩

set_option maxRecDepth 100000 in
set_option maxHeartbeats 1000000 in
theorem c_specMapText (v : Value) (o : Option Nat) (xs : List Mk) (w : World) (h : MpV w w.heap.size v o xs) (hn : xs.length ≤ 1048576) (hc32 : Cells32 xs) :
    Calls Tryd.prog 10 #[v] w fun e w' => e = .returned (.string (mapX o xs)) ∧ Stays w w' := by
  obtain ⟨sd, A, c, rfl, hf, h1⟩ := h.val
  have hbox := heap_alloc_new w (.cells #[.float .f32 sd, .slice A xs.length c] 36)
  have hst : Stays w (w.alloc (.cells #[.float .f32 sd, .slice A xs.length c] 36)) := by (repeat (first | exact Stays.refl _ | (with_reducible refine Stays.drewN ?_ _) | (with_reducible refine Stays.alloc ?_ _) | (with_reducible refine Stays.drew ?_) | (refine Stays.trans ?_ ‹Stays _ _›)))
  have kO := Lib.hid fun W (hb : Stays (w.alloc (.cells #[.float .f32 sd, .slice A xs.length c] 36)) W) => c_l05Ok w.heap.size sd o hf A c xs W (hb.heap (Array.getElem?_eq_some_iff.1 hbox).1 hbox) ((h1.below (hst.trans hb)).more (hst.trans hb).size) hn
  have kT := Lib.hid fun W (hb : Stays (w.alloc (.cells #[.float .f32 sd, .slice A xs.length c] 36)) W) => c_l05Text w.heap.size sd o hf A c xs W (hb.heap (Array.getElem?_eq_some_iff.1 hbox).1 hbox) ((h1.below (hst.trans hb)).more (hst.trans hb).size)
  replace hst := Lib.hid hst
  clear hbox h h1 hf
  unfold mapX
  cases hg : mapOK o xs with
  | false =>
    rw [hg] at kO
    clear hg
    simp only [Bool.false_eq_true, if_false]
    go_enter Tryd.func10, Tryd.ntmps10
    go_wp2_with fail
    refine (kO.out _ (Stays.refl _)).mono ?_
    rintro e w1 ⟨rfl, hb1⟩
    have hf := Lib.hid (hst.out.trans hb1)
    clear hb1
    go_wp2
    go_ret
    exact ⟨rfl, hf.out⟩
  | true =>
    rw [hg] at kO
    simp only [if_true]
    obtain ⟨hm2, hl⟩ := map_facts hg hc32
    replace kT := Lib.hid fun W hb => kT.out W hb hm2 hl
    clear hg hl hc32 hm2 hn
    go_enter Tryd.func10, Tryd.ntmps10
    go_wp2_with fail
    refine (kO.out _ (Stays.refl _)).mono ?_
    rintro e w1 ⟨rfl, hb1⟩
    have hf := Lib.hid (show Stays (w.alloc (.cells #[.float .f32 sd, .slice A xs.length c] 36)) w1 from hb1)
    clear hb1
    go_wp2_with fail
    refine (kT.out _ hf.out).mono ?_
    rintro e w2 ⟨rfl, hb2⟩
    have hf2 := Lib.hid (hst.out.trans (hf.out.trans hb2))
    clear hb2
    go_wp2
    go_ret
    exact ⟨rfl, hf2.out⟩

set_option maxRecDepth 100000 in
set_option maxHeartbeats 1000000 in
theorem c_lawMapText (v : Value) (o : Option Nat) (xs : List Mk) (w : World) (h : MpV w w.heap.size v o xs) (hn : xs.length ≤ 9223372036854775807) (hc32 : Cells32 xs) (hP : PowT w) :
    Calls Tryd.prog 4 #[v] w fun e w' => e = .returned (.bool true) ∧ Below w.heap.size w w' := by
  obtain ⟨s, A, c, rfl, _, HB⟩ := boxMp 31 h
  clear h
  replace HB := Lib.hid HB
  replace hP := Lib.hid hP
  replace hc32 := Lib.hid hc32
  have hsz := fun W => c_szLandMap (.float .f32 s) A c xs.length 1048576 W hn (by omega) (by omega)
  by_cases hl : (1048576 : Int) - xs.length < 0
  · simp only [if_pos hl] at hsz
    replace hsz := Lib.hid hsz
    go_enter Tryd.func4, Tryd.ntmps4
    go_wp2_with fail
    refine (hsz.out _).mono ?_
    rintro e w1 ⟨rfl, hb⟩
    go_wp2
    go_ret
    exact ⟨rfl, (HB.out _ hb).1.2⟩
  · simp only [if_neg hl] at hsz
    have hn' : xs.length ≤ 1048576 := by omega
    have hX : ¬ ((1048576 : Int) - xs.length < 0) := hl
    generalize (1048576 : Int) - xs.length = X at hX hsz
    replace hsz := Lib.hid hsz
    clear hl hn
    go_enter Tryd.func4, Tryd.ntmps4
    go_wp2_with fail
    refine (hsz.out _).mono ?_
    rintro e w1 ⟨rfl, hb⟩
    have hb1 := Lib.hid (show Stays _ w1 from hb)
    clear hb
    generalize (w.alloc (.cells #[.float .f32 s, .slice A xs.length c] 31)) = W0 at HB hb1
    obtain ⟨⟨⟨q0, q1⟩, _⟩, hg⟩ := HB.out _ hb1.out
    replace hg := Lib.hid hg
    go_wp2_with fail
    refine (c_toMp _ o xs w1 hg.out hn').mono ?_
    rintro e w2 ⟨v1, rfl, hb, hv1⟩
    have hb2 := Lib.hid (hb1.out.trans hb)
    clear hb
    replace hv1 := Lib.hid hv1
    go_wp2_with fail
    refine (c_specMapText v1 o xs w2 hv1.out hn' hc32.out).mono ?_
    rintro e w3 ⟨rfl, hb⟩
    have hb3 := Lib.hid (hb2.out.trans hb)
    clear hb hv1 q0 q1 hg
    obtain ⟨⟨⟨q0, q1⟩, _⟩, hg⟩ := HB.out _ hb3.out
    replace hg := Lib.hid hg
    go_wp2_with fail
    refine (c_toMp _ o xs w3 hg.out hn').mono ?_
    rintro e w4 ⟨v2, rfl, hb, hv2⟩
    have hb4 := Lib.hid (hb3.out.trans hb)
    clear hb q0 q1 hg
    obtain ⟨s2, D, d, rfl, _, HX⟩ := boxMp 36 hv2
    clear hv2
    replace HX := Lib.hid HX
    go_wp2_with fail
    have hb4x := Lib.hid (hb4.out.trans (show Stays w4 (w4.alloc (.cells #[.float .f32 s2, .slice D xs.length d] 36)) from by (repeat (first | exact Stays.refl _ | (with_reducible refine Stays.drewN ?_ _) | (with_reducible refine Stays.alloc ?_ _) | (with_reducible refine Stays.drew ?_) | (refine Stays.trans ?_ ‹Stays _ _›)))))
    have hxx := Lib.hid (Stays.refl (w4.alloc (.cells #[.float .f32 s2, .slice D xs.length d] 36)))
    generalize (w4.alloc (.cells #[.float .f32 s2, .slice D xs.length d] 36)) = WX at HX hb4x hxx ⊢
    refine (c_implMapText _ o xs WX (HX.out _ hxx.out).2 hn' hc32.out (hP.out.on (show Stays w WX from (HB.out _ hb4x.out).1.2))).mono ?_
    rintro e w5 ⟨rfl, hb⟩
    have hb5 := Lib.hid (hb4x.out.trans hb)
    replace hxx := Lib.hid (hxx.out.trans hb)
    clear hb
    obtain ⟨⟨⟨q0, q1⟩, _⟩, hg⟩ := HB.out _ hb5.out
    replace hg := Lib.hid hg
    obtain ⟨⟨⟨x0, x1⟩, _⟩, hvx⟩ := HX.out _ hxx.out
    clear hvx
    have G : Hid (∀ w', Stays w5 w' → (w'.cell? ⟨w.heap.size, 0, none⟩ = some (.float .f32 s) ∧ w'.cell? ⟨w.heap.size, 1, none⟩ = some (.slice A xs.length c) ∧ w'.cell? ⟨w4.heap.size, 0, none⟩ = some (.float .f32 s2) ∧ w'.cell? ⟨w4.heap.size, 1, none⟩ = some (.slice D xs.length d) ∧ Hid (Stays w5 w'))) := Lib.hid fun w' h => ⟨(HB.out _ (hb5.out.trans h)).1.1.1, (HB.out _ (hb5.out.trans h)).1.1.2, (HX.out _ (hxx.out.trans h)).1.1.1, (HX.out _ (hxx.out.trans h)).1.1.2, Lib.hid h⟩
    have h5 := Lib.hid (show Stays w5 w5.drew from (Stays.refl w5).drew)
    all_goals
      go_wp2_with fail
      go_region_held (fun w' => (w'.cell? ⟨w.heap.size, 0, none⟩ = some (.float .f32 s) ∧ w'.cell? ⟨w.heap.size, 1, none⟩ = some (.slice A xs.length c) ∧ w'.cell? ⟨w4.heap.size, 0, none⟩ = some (.float .f32 s2) ∧ w'.cell? ⟨w4.heap.size, 1, none⟩ = some (.slice D xs.length d) ∧ Hid (Stays w5 w'))) (first | exact G.out _ h5.out | exact G.out _ h6.out | exact G.out _ h7.out)
        (first
          | (go_at_call 11; refine (c_toMp _ o xs _ (HB.out _ (hb5.out.trans h5.out)).2 hn').mono ?_; rintro e w6 ⟨v3, rfl, hb, hv3⟩; have h6 := Lib.hid (h5.out.trans hb); clear hb; replace hv3 := Lib.hid hv3)
          | (go_at_call 13; refine (c_eqLandMap _ v3 o xs w6 (HX.out _ (hxx.out.trans h6.out)).2 hv3.out hn').mono ?_; rintro e w7 ⟨rfl, hb⟩; have h7 := Lib.hid (h6.out.trans hb); clear hb))
      go_wp2
      go_ret
      exact ⟨rfl, (HB.out _ (hb5.out.trans h7.out)).1.2⟩
end Go.Proofs.YtpccnejchbachaaDoor
