/- The lines of a graph's text: the program's side. Condition: the library's table of powers of ten lies in memory. A strings.Builder and what it holds: for seats without grids. A link's line as the document adds it up. A graph's text: the document's side. A graph's text: the document's side, the loops. A graph's text: both functions. Condition (the program's side): the library's table of powers of ten lies in memory. The law on texts of graphs. Condition: the library's table of powers of ten lies in memory. No condition. -/
import Derived.Test.YtpccnejchbachaaDoorDb
import Derived.Test.YtpccnejchbachaaDoorHy
import Derived.Test.YtpccnejchbachaaDoorSv
import Derived.Test.YtpccnejchbachaaDoorGv
import Derived.Test.YtpccnejchbachaaDoorSh
import Derived.Test.YtpccnejchbachaaDoorGrC
import Derived.Test.YtpccnejchbachaaDoorDa
import Derived.Deep.RegionHeld
namespace Go.Proofs.YtpccnejchbachaaDoor
open Go Go.ChangeShapes Go.WideShapes Go.RowKit
set_option linter.unusedVariables false
set_option linter.unusedSimpArgs false

def poseW : ByteArray := ⟨#[112, 111, 115, 101, 32]⟩
def linkW : ByteArray := ⟨#[108, 105, 110, 107]⟩
def nlW : ByteArray := ⟨#[10]⟩
def poseT (a b c : Nat) : ByteArray := poseW ++ rowT [a, b, c] ++ nlW
def hexB4 (x : Nat) : ByteArray := hexT (bitsOf x)
def linkT (f t a b c x : Nat) : ByteArray := ⟨(Lib.join ([linkW, decS f, decS t, rowT [a, b, c], hexB4 x].map (·.data.toList)) [32]).toArray⟩ ++ nlW

theorem row3_size (a b c : Nat) : (rowT [a, b, c]).size ≤ 27 := rowT_size [a, b, c] 3 (by simp)

set_option maxRecDepth 100000 in
theorem c_poseText (a b c : Nat) (w : World) (hx : ∀ x ∈ [a, b, c], x < 4294967296) :
    Calls Tryd.prog 43 #[.agg #[.float .f32 a, .float .f32 b, .float .f32 c]] w fun e w' => e = .returned (.string (poseT a b c)) ∧ Stays w w' := by
  have kR := Lib.hid fun W h => c_numbersText w.heap.size 0 3 [a, b, c] W h hx (by simp)
  have hN := Lib.hid fun t => nums_new w [a, b, c] #[.float .f32 a, .float .f32 b, .float .f32 c] t rfl
  have hb := Lib.hid fun t => (show Stays w (w.alloc (.cells #[.float .f32 a, .float .f32 b, .float .f32 c] t)) from (Below.refl _ _).alloc (Nat.le_refl _) _)
  have hs := row3_size a b c
  have e1 : poseW.size = 5 := rfl
  have e2 : nlW.size = 1 := rfl
  clear hx
  unfold poseT
  generalize rowT [a, b, c] = T at kR hs ⊢
  have p1 := fun W => run_string_add_sum (P := Tryd.prog) W poseW T (by omega)
  have p2 := fun W => run_string_add_sum (P := Tryd.prog) W (poseW ++ T) nlW (by simp only [ByteArray.size_append]; omega)
  have hw1 : (⟨#[112, 111, 115, 101, 32]⟩ : ByteArray) = poseW := rfl
  have hw2 : (⟨#[10]⟩ : ByteArray) = nlW := rfl
  clear hs e1 e2
  go_enter Tryd.func43, Tryd.ntmps43
  go_wp2_with fail
  refine (kR.out _ (hN.out _)).mono ?_
  rintro e w1 ⟨rfl, hb1⟩
  replace hb := Lib.hid (Stays.trans (hb.out _) (show Stays _ w1 from hb1))
  clear hb1 hN kR
  go_wp2
  go_ret
  exact ⟨rfl, hb.out⟩

set_option maxRecDepth 100000 in
theorem c_l06Numbers (a b c : Nat) (w : World) (hx : ∀ x ∈ [a, b, c], x < 4294967296) :
    Calls Tryd.prog 67 #[.agg #[.float .f32 a, .float .f32 b, .float .f32 c]] w fun e w' => e = .returned (.string (rowT [a, b, c])) ∧ Stays w w' := by
  have kR := Lib.hid fun W => c_VecTextS a b c W hx
  have hst := Lib.hid fun t => (show Stays w (w.alloc (.cells #[.float .f32 a, .float .f32 b, .float .f32 c] t)) from (Below.refl _ _).alloc (Nat.le_refl _) _)
  clear hx
  generalize rowT [a, b, c] = T at kR ⊢
  go_enter Tryd.func67, Tryd.ntmps67
  go_wp2_with fail
  refine (kR.out _).mono ?_
  rintro e w1 ⟨rfl, hb1⟩
  have hb := Lib.hid ((hst.out _).trans hb1)
  clear hb1
  go_wp2
  go_ret
  exact ⟨rfl, hb.out⟩

theorem join5 (a b c d e s : List UInt8) : Lib.join [a, b, c, d, e] s = a ++ (s ++ (b ++ (s ++ (c ++ (s ++ (d ++ (s ++ e))))))) := by simp [Lib.join, List.intercalate]

/-- What the calls in a link's line give. -/
def linkS (T3 T4 : ByteArray) (f : FuncId) (args : Array Value) (v : Value) : Prop :=
  (f = 24 → ∀ n : Nat, args = #[.int .i64 n] → v = .string (decS n)) ∧ (f = 72 → v = .string T3) ∧ (f = 31 → v = .string T4)

set_option maxRecDepth 100000 in
set_option maxHeartbeats 2000000 in
theorem c_linkText (f t a b c x : Nat) (w : World) (hf : f < 9223372036854775808) (ht : t < 9223372036854775808) (hx : ∀ x ∈ [a, b, c], x < 4294967296) (hx4 : x < 4294967296) (hP : PowT w) :
    Calls Tryd.prog 44 #[.agg #[.int .i64 f, .int .i64 t, .float .f32 a, .float .f32 b, .float .f32 c, .float .f32 x]] w fun e w' => e = .returned (.string (linkT f t a b c x)) ∧ Stays w w' := by
  have hnew := heap_alloc_new w (.cells #[.int .i64 (f : Int), .int .i64 (t : Int), .float .f32 a, .float .f32 b, .float .f32 c, .float .f32 x] 96)
  obtain ⟨W0, hW0⟩ : ∃ W0, W0 = w.alloc (.cells #[.int .i64 (f : Int), .int .i64 (t : Int), .float .f32 a, .float .f32 b, .float .f32 c, .float .f32 x] 96) := ⟨_, rfl⟩
  rw [← hW0] at hnew
  have hst : Stays w W0 := by rw [hW0]; (repeat (first | exact Stays.refl _ | (with_reducible refine Stays.drewN ?_ _) | (with_reducible refine Stays.alloc ?_ _) | (with_reducible refine Stays.drew ?_) | (refine Stays.trans ?_ ‹Stays _ _›)))
  have hcells := fun W (hb : Stays W0 W) => (show W.cell? ⟨w.heap.size, 0, none⟩ = some (.int .i64 (f : Int)) ∧ W.cell? ⟨w.heap.size, 1, none⟩ = some (.int .i64 (t : Int)) ∧ W.cell? ⟨w.heap.size, 2, none⟩ = some (.float .f32 a) ∧ W.cell? ⟨w.heap.size, 3, none⟩ = some (.float .f32 b) ∧ W.cell? ⟨w.heap.size, 4, none⟩ = some (.float .f32 c) ∧ W.cell? ⟨w.heap.size, 5, none⟩ = some (.float .f32 x) from ⟨row_of hb hnew 0, row_of hb hnew 1, row_of hb hnew 2, row_of hb hnew 3, row_of hb hnew 4, row_of hb hnew 5⟩)
  have hlt := in_heap hnew
  have k1 := Lib.hid fun W (hb : Stays W0 W) => (c_decimal f W (by omega) (by omega) (hP.on (hst.trans hb))).mono (R' := fun e w' => e = .returned (.string (decS f)) ∧ Stays W w') fun e w' h => by rw [← itoaS_nonneg]; exact h
  have k2 := Lib.hid fun W (hb : Stays W0 W) => (c_decimal t W (by omega) (by omega) (hP.on (hst.trans hb))).mono (R' := fun e w' => e = .returned (.string (decS t)) ∧ Stays W w') fun e w' h => by rw [← itoaS_nonneg]; exact h
  have k3 := Lib.hid fun W (hb : Stays W0 W) => (show Calls Tryd.prog 72 #[.slice (some ⟨w.heap.size, 2, none⟩) 3 3] W fun e w' => e = .returned (.string (rowT [a, b, c])) ∧ Stays W w' from c_numbersText w.heap.size 2 3 [a, b, c] W ⟨Nat.lt_of_lt_of_le hlt hb.size, fun j y hj => by
    match j, hj with
    | 0, hj => cases hj; exact (hcells W hb).2.2.1
    | 1, hj => cases hj; exact (hcells W hb).2.2.2.1
    | 2, hj => cases hj; exact (hcells W hb).2.2.2.2.1⟩ hx (by simp))
  have k4 := Lib.hid fun W (hb : Stays W0 W) => c_NumberText x W hx4
  have z1 := decS_len (n := f) hf
  have z2 := decS_len (n := t) ht
  have z3 := row3_size a b c
  have z4 : (hexB4 x).size = 8 := hexT_size _
  have hLT : linkT f t a b c x = ⟨(Lib.join ([linkW, decS f, decS t, rowT [a, b, c], hexB4 x].map (·.data.toList)) [32]).toArray⟩ ++ nlW := rfl
  generalize linkT f t a b c x = LT at hLT ⊢
  generalize hT1 : decS f = T1 at k1 z1 hLT
  generalize hT2 : decS t = T2 at k2 z2 hLT
  generalize rowT [a, b, c] = T3 at k3 z3 hLT
  change Hid (∀ W (hb : Stays W0 W), Calls Tryd.prog 31 #[.float .f32 x] W fun e w' => e = .returned (.string (hexB4 x)) ∧ Stays W w') at k4
  generalize hexB4 x = T4 at k4 z4 hLT
  have hJ := Lib.hid fun bk W h1 h2 => c_Join bk 0 5 [linkW, T1, T2, T3, T4] ⟨#[32]⟩ W h1 h2 (by simp) (by simp) (by
    have q0 : linkW.data.toList.length = 4 := rfl
    have q1 : T1.data.toList.length ≤ 21 := by rw [Array.length_toList]; exact z1
    have q2 : T2.data.toList.length ≤ 21 := by rw [Array.length_toList]; exact z2
    have q3 : T3.data.toList.length ≤ 27 := by rw [Array.length_toList]; exact z3
    have q4 : T4.data.toList.length = 8 := by rw [Array.length_toList]; exact z4
    simp only [List.map_cons, List.map_nil, join5, List.length_append]
    have q5 : (⟨#[32]⟩ : ByteArray).data.toList.length = 1 := rfl
    have q6 : (#[32] : Array UInt8).toList.length = 1 := rfl
    have q7 : ([32] : List UInt8).length = 1 := rfl
    omega)
  have hJl : (Lib.join ([linkW, T1, T2, T3, T4].map (·.data.toList)) [32]).length ≤ 100 := by
    have q0 : linkW.data.toList.length = 4 := rfl
    have q1 : T1.data.toList.length ≤ 21 := by rw [Array.length_toList]; exact z1
    have q2 : T2.data.toList.length ≤ 21 := by rw [Array.length_toList]; exact z2
    have q3 : T3.data.toList.length ≤ 27 := by rw [Array.length_toList]; exact z3
    have q4 : T4.data.toList.length = 8 := by rw [Array.length_toList]; exact z4
    simp only [List.map_cons, List.map_nil, join5, List.length_append]
    have q5 : ([32] : List UInt8).length = 1 := rfl
    omega
  have hJ2 : Hid (∀ bk (W : World), (∀ (j : Nat) y, [linkW, T1, T2, T3, T4][j]? = some y → W.cell? ⟨bk, 0 + j, none⟩ = some (.string y)) → bk < W.heap.size → Calls Tryd.prog 63 #[.slice (some ⟨bk, 0, none⟩) 5 5, .string ⟨#[32]⟩] W fun e w' => e = .returned (.string ⟨(Lib.join ([linkW, T1, T2, T3, T4].map (·.data.toList)) [32]).toArray⟩) ∧ Below W.heap.size W w') := Lib.hid fun bk W h1 h2 => hJ.out bk W h1 h2
  clear hJ
  generalize Lib.join ([linkW, T1, T2, T3, T4].map (·.data.toList)) [32] = J at hJ2 hJl hLT
  have p1 := fun W => run_string_add_sum (P := Tryd.prog) W ⟨J.toArray⟩ nlW (by
    have q : (⟨J.toArray⟩ : ByteArray).size = J.length := List.size_toArray
    have q2 : nlW.size = 1 := rfl
    omega)
  have hlw : (⟨#[108, 105, 110, 107]⟩ : ByteArray) = linkW := rfl
  have hnl : (⟨#[10]⟩ : ByteArray) = nlW := rfl
  have g1 := Lib.hid hT1
  have g2 := Lib.hid hT2
  clear hT1 hT2
  replace hst := Lib.hid hst
  replace hLT := Lib.hid hLT
  clear hnew hx hx4 hf ht hP z1 z2 z3 z4 hJl hlt
  go_enter Tryd.func44, Tryd.ntmps44
  go_wp2_with fail
  rw [← hW0]
  clear hW0
  refine wp_region_soft_tail 12 (Stays.refl _) (linkS T3 T4) [] (by kernel_rfl) (by kernel_rfl) (fun _ h => by cases h) ?_
  simp only [List.take_succ_cons, List.take_zero, List.drop_succ_cons, List.drop_zero]
  repeat (first | ((with_reducible apply soft_detG); (case hwa => rfl); (case hA => rfl); (case h => (intro w1 hw1; have hc := hcells w1 hw1; go_simp; exact rfl)); go_simp) | ((with_reducible apply soft_callS (v := .string T1)); (case hwa => rfl); (case hA => rfl); (case h => (intro w1 hw1; have hc := hcells w1 hw1; go_simp; exact ⟨rfl, rfl⟩)); (case hc => (intro w1 hw1; with_reducible exact k1.out w1 hw1)); (case hS => exact ⟨fun _ n e => (by have e2 := congrArg (fun a : Array Value => a[0]?) e; simp at e2; have e3 : f = n := (by omega); rw [← e3, g1.out]), fun e => absurd e (by decide), fun e => absurd e (by decide)⟩); (case hu => exact fun u hu => (hu.1 rfl f rfl).trans (by rw [g1.out])); go_simp) | ((with_reducible apply soft_callS (v := .string T2)); (case hwa => rfl); (case hA => rfl); (case h => (intro w1 hw1; have hc := hcells w1 hw1; go_simp; exact ⟨rfl, rfl⟩)); (case hc => (intro w1 hw1; with_reducible exact k2.out w1 hw1)); (case hS => exact ⟨fun _ n e => (by have e2 := congrArg (fun a : Array Value => a[0]?) e; simp at e2; have e3 : t = n := (by omega); rw [← e3, g2.out]), fun e => absurd e (by decide), fun e => absurd e (by decide)⟩); (case hu => exact fun u hu => (hu.1 rfl t rfl).trans (by rw [g2.out])); go_simp) | ((with_reducible apply soft_callS (v := .string T3)); (case hwa => rfl); (case hA => rfl); (case h => (intro w1 hw1; have hc := hcells w1 hw1; go_simp; exact ⟨rfl, rfl⟩)); (case hc => (intro w1 hw1; with_reducible exact k3.out w1 hw1)); (case hS => exact ⟨fun e => absurd e (by decide), fun _ => rfl, fun e => absurd e (by decide)⟩); (case hu => exact fun u hu => hu.2.1 rfl); go_simp) | ((with_reducible apply soft_callS (v := .string T4)); (case hwa => rfl); (case hA => rfl); (case h => (intro w1 hw1; have hc := hcells w1 hw1; go_simp; exact ⟨rfl, rfl⟩)); (case hc => (intro w1 hw1; with_reducible exact k4.out w1 hw1)); (case hS => exact ⟨fun e => absurd e (by decide), fun e => absurd e (by decide), fun _ => rfl⟩); (case hu => exact fun u hu => hu.2.2 rfl); go_simp))
  refine soft_nil ?_
  rintro w2 ⟨hw2, _⟩
  have hf2 := Lib.hid (Stays.trans hst.out hw2)
  clear hw2 hcells k1 k2 k3 k4
  go_wp2_with fail
  refine (hJ2.out _ _ ?_ ?_).mono ?_
  · intro j y hj
    rw [Nat.zero_add]
    refine (cell_of_row _ _ j _ _ _ (heap_alloc_new w2 _)).trans ?_
    match j, hj with
    | 0, hj => cases hj; rfl
    | 1, hj => cases hj; rfl
    | 2, hj => cases hj; rfl
    | 3, hj => cases hj; rfl
    | 4, hj => cases hj; rfl
    | j + 5, hj => simp at hj
  · exact (Array.getElem?_eq_some_iff.1 (heap_alloc_new w2 _)).1
  rintro e w3 ⟨rfl, hb3⟩
  have hb := Lib.hid (hf2.out.trans ((show Stays w2 _ from by (repeat (first | exact Stays.refl _ | (with_reducible refine Stays.drewN ?_ _) | (with_reducible refine Stays.alloc ?_ _) | (with_reducible refine Stays.drew ?_) | (refine Stays.trans ?_ ‹Stays _ _›)))).trans (show Stays _ w3 from hb3)))
  clear hb3
  go_wp2
  go_ret
  exact ⟨congrArg (fun z => Ending.returned (Value.string z)) hLT.out.symm, hb.out⟩
end Go.Proofs.YtpccnejchbachaaDoor

namespace Go.Proofs.YtpccnejchbachaaDoor
open Go Go.ChangeShapes Go.WideShapes Go.RowKit
set_option linter.unusedVariables false
set_option linter.unusedSimpArgs false

/-- A builder that holds bytes. -/
def Bl (B b : Nat) (l : List UInt8) (w : World) : Prop := Lib.IsBuilder 70 5 B b (Lib.byteCells l) w ∧ B ≤ w.heap.size

theorem Bl.on {B b : Nat} {l : List UInt8} {w w' : World} (h : Bl B b l w) (hs : Stays w w') : Bl B b l w' := by
  obtain ⟨h1, h2⟩ := h
  have k : ∀ g, g < w.heap.size → w'.heap[g]? = w.heap[g]? := fun g hg => Below.block hs g hg
  have at_ : ∀ p, Lib.BuilderAt 70 5 B b p (Lib.byteCells l) w → Lib.BuilderAt 70 5 B b p (Lib.byteCells l) w' := by
    rintro p ⟨hB, v, hb, ⟨ho1, ho2⟩, hne⟩
    refine ⟨hB, v, (k b (Array.getElem?_eq_some_iff.1 hb).1).trans hb, ⟨ho1, ?_⟩, hne⟩
    rcases ho2 with h2 | ⟨g, cap, cur, hv, hb', hg, hr⟩
    · exact .inl h2
    · exact .inr ⟨g, cap, cur, hv, hb', (k g (Array.getElem?_eq_some_iff.1 hg).1).trans hg, hr⟩
  exact ⟨h1.elim (fun h => .inl (at_ _ h)) (fun h => .inr (at_ _ h)), Nat.le_trans h2 hs.size⟩

theorem Bl.new (w : World) : Bl w.heap.size w.heap.size [] (w.alloc (.cells #[.pointer none, .slice none 0 0] 70)) :=
  ⟨Lib.fresh_isBuilder _ _ w, by simp⟩

theorem c_String (B b : Nat) (l : List UInt8) (w : World) (h : Bl B b l w) :
    Calls Tryd.prog 33 #[.pointer (some ⟨b, 0, none⟩)] w fun e w' => e = .returned (.string ⟨l.toArray⟩) ∧ Below B w w' :=
  Any.Builder_String_any lays169 Builder_Extra_156 B b l w h.1 h.2

theorem c_WriteString (B b : Nat) (l : List UInt8) (s : ByteArray) (w : World) (h : Bl B b l w) (hl : l.length + s.size ≤ 100000) :
    Calls Tryd.prog 30 #[.pointer (some ⟨b, 0, none⟩), .string s] w fun e w' => e = .returned (.tuple #[.int .i64 s.size, .nilIface]) ∧ Bl B b (l ++ s.data.toList) w' ∧ Below B w w' := by
  refine (Any.Builder_WriteString lays166 Builder_Extra_156 B b (Lib.byteCells l) s w h.1 (by rw [show (Lib.byteCells l).length = l.length from List.length_map ..]; omega) h.2).mono ?_
  rintro e w' ⟨rfl, h1, h2⟩
  refine ⟨rfl, ⟨.inr ?_, Nat.le_trans h.2 h2.size⟩, h2⟩
  rw [show Lib.byteCells (l ++ s.data.toList) = Lib.byteCells l ++ Lib.strCells s from by simp [Lib.byteCells, Lib.strCells]]
  exact h1
end Go.Proofs.YtpccnejchbachaaDoor

namespace Go.Proofs.YtpccnejchbachaaDoor
open Go Go.ChangeShapes Go.WideShapes Go.RowKit
set_option linter.unusedVariables false
set_option linter.unusedSimpArgs false

def link5 : ByteArray := ⟨#[108, 105, 110, 107, 32]⟩
def spW : ByteArray := ⟨#[32]⟩

theorem ba_toList (a b : ByteArray) : (a ++ b).data.toList = a.data.toList ++ b.data.toList := by simp

theorem ba_ext {a b : ByteArray} (h : a.data.toList = b.data.toList) : a = b := by
  obtain ⟨⟨x⟩⟩ := a
  obtain ⟨⟨y⟩⟩ := b
  have h : x = y := h
  rw [h]

/-- "link " + from + " " + to + " " + step + " " + weight + newline. -/
theorem link_sum (f t a b c x : Nat) : ((((((link5 ++ decS f) ++ spW) ++ decS t) ++ spW) ++ rowT [a, b, c]) ++ spW) ++ hexB4 x ++ nlW = linkT f t a b c x := by
  apply ba_ext
  unfold linkT
  generalize decS f = T1
  generalize decS t = T2
  generalize rowT [a, b, c] = T3
  generalize hexB4 x = T4
  have e1 : link5.data.toList = linkW.data.toList ++ [32] := rfl
  have e2 : spW.data.toList = [32] := rfl
  simp only [ba_toList, List.map_cons, List.map_nil, join5, e1, e2, List.append_assoc]

theorem linkT_size (f t a b c x : Nat) (hf : f < 9223372036854775808) (ht : t < 9223372036854775808) : (linkT f t a b c x).size ≤ 100 := by
  rw [← link_sum]
  have z1 := decS_len (n := f) hf
  have z2 := decS_len (n := t) ht
  have z3 := row3_size a b c
  have z4 : (hexB4 x).size = 8 := hexT_size _
  have e1 : link5.size = 5 := rfl
  have e2 : spW.size = 1 := rfl
  have e3 : nlW.size = 1 := rfl
  simp only [ByteArray.size_append]
  omega

theorem poseT_size (a b c : Nat) : (poseT a b c).size ≤ 40 := by
  unfold poseT
  have z3 := row3_size a b c
  have e1 : poseW.size = 5 := rfl
  have e3 : nlW.size = 1 := rfl
  simp only [ByteArray.size_append]
  omega
end Go.Proofs.YtpccnejchbachaaDoor

namespace Go.Proofs.YtpccnejchbachaaDoor
open Go Go.ChangeShapes Go.WideShapes Go.RowKit
set_option linter.unusedVariables false
set_option linter.unusedSimpArgs false

/-- The word of a node: one for each NaN. -/
def cw (n : NV) : Nat := n.gf.getD 2143289344
theorem bits_cw {x : Nat} {n : NV} (h : FIs .f32 x n.gf) : bitsOf x = bitsOf (cw n) := by
  have hx := h.out
  unfold cw
  cases e : n.gf with
  | none =>
    rw [e] at hx
    unfold bitsOf
    rw [hx]
    show (2143289344 : Nat) = (can .f32 2143289344).getD 2143289344
    cases hc : can .f32 2143289344 with
    | none => rfl
    | some c => obtain ⟨rfl, _⟩ := can_some hc; rfl
  | some b =>
    rw [e] at hx
    obtain ⟨rfl, _⟩ := can_some hx
    rfl
theorem row_congr {a b c a' b' c' : Nat} (h1 : bitsOf a = bitsOf a') (h2 : bitsOf b = bitsOf b') (h3 : bitsOf c = bitsOf c') : rowT [a, b, c] = rowT [a', b', c'] := by
  unfold rowT rowL
  simp only [List.map_cons, List.map_nil, hexB8, h1, h2, h3]

def at_ (r : List NV) (i : Nat) : NV := r.getD i (.i 0)
/-- The lines of rows of nodes. -/
def poseN (r : List NV) : ByteArray := poseT (cw (at_ r 0)) (cw (at_ r 1)) (cw (at_ r 2))
def linkN (r : List NV) : ByteArray := linkT (at_ r 0).gi.toNat (at_ r 1).gi.toNat (cw (at_ r 2)) (cw (at_ r 3)) (cw (at_ r 4)) (cw (at_ r 5))
def graphW : ByteArray := ⟨#[103, 114, 97, 112, 104, 10]⟩
def linesT (f : List NV → ByteArray) (b : ByteArray) (xs : List (List NV)) : Nat → ByteArray
  | 0 => b
  | k + 1 => match xs[k]? with
    | some r => linesT f b xs k ++ f r
    | none => linesT f b xs k
theorem lines_next {f : List NV → ByteArray} {b : ByteArray} {xs : List (List NV)} {k : Nat} {r : List NV} (h : xs[k]? = some r) : linesT f b xs (k + 1) = linesT f b xs k ++ f r := by
  rw [linesT, h]

/-- A pose's cells and its line. -/
theorem pose_words {c0 c1 c2 : Value} {r : List NV} (h : KMs KPose [c0, c1, c2] r) : ∃ a b c : Nat, c0 = .float .f32 a ∧ c1 = .float .f32 b ∧ c2 = .float .f32 c ∧ (∀ x ∈ [a, b, c], x < 4294967296) ∧ poseT a b c = poseN r := by
  have hl : r.length = 3 := KMs_rlen h
  match r, hl, h with
  | [x, y, z], _, ⟨⟨a, e1, f1⟩, ⟨b, e2, f2⟩, ⟨c, e3, f3⟩, _⟩ =>
    refine ⟨a, b, c, e1, e2, e3, fun q hq => ?_, ?_⟩
    · simp at hq
      rcases hq with rfl | rfl | rfl
      · exact f1.lt
      · exact f2.lt
      · exact f3.lt
    · show poseT a b c = poseT (cw x) (cw y) (cw z)
      unfold poseT
      rw [row_congr (bits_cw f1) (bits_cw f2) (bits_cw f3)]

theorem link_words {cs : List Value} {r : List NV} (h : KMs KLink cs r) (hf : 0 ≤ (at_ r 0).gi) (ht : 0 ≤ (at_ r 1).gi) : ∃ f t a b c x : Nat, cs = [.int .i64 f, .int .i64 t, .float .f32 a, .float .f32 b, .float .f32 c, .float .f32 x] ∧ (∀ q ∈ [a, b, c], q < 4294967296) ∧ x < 4294967296 ∧ (f : Int) = (at_ r 0).gi ∧ (t : Int) = (at_ r 1).gi ∧ linkT f t a b c x = linkN r := by
  have hl : r.length = 6 := KMs_rlen h
  have hc : cs.length = 6 := KMs_len h
  match r, hl, cs, hc, h with
  | [u, v, x, y, z, q], _, [c0, c1, c2, c3, c4, c5], _, ⟨h0, h1, ⟨a, e1, f1⟩, ⟨b, e2, f2⟩, ⟨c, e3, f3⟩, ⟨d, e4, f4⟩, _⟩ =>
    have h0 : c0 = Value.int .i64 u.gi := h0
    have h1 : c1 = Value.int .i64 v.gi := h1
    have hf : 0 ≤ u.gi := hf
    have ht : 0 ≤ v.gi := ht
    have q1 : ((u.gi.toNat : Nat) : Int) = u.gi := Int.toNat_of_nonneg hf
    have q2 : ((v.gi.toNat : Nat) : Int) = v.gi := Int.toNat_of_nonneg ht
    refine ⟨u.gi.toNat, v.gi.toNat, a, b, c, d, ?_, fun p hp => ?_, f4.lt, q1, q2, ?_⟩
    · rw [q1, q2, h0, h1, e1, e2, e3, e4]
    · simp at hp
      rcases hp with rfl | rfl | rfl
      · exact f1.lt
      · exact f2.lt
      · exact f3.lt
    · show linkT _ _ a b c d = linkT u.gi.toNat v.gi.toNat (cw x) (cw y) (cw z) (cw q)
      unfold linkT hexB4
      rw [row_congr (bits_cw f1) (bits_cw f2) (bits_cw f3), bits_cw f4]
end Go.Proofs.YtpccnejchbachaaDoor

namespace Go.Proofs.YtpccnejchbachaaDoor
open Go Go.ChangeShapes Go.WideShapes Go.RowKit
set_option linter.unusedVariables false
set_option linter.unusedSimpArgs false

theorem lines_size {f : List NV → ByteArray} {b : ByteArray} {xs : List (List NV)} {M : Nat} (hf : ∀ r ∈ xs, (f r).size ≤ M) : ∀ k, (linesT f b xs k).size ≤ b.size + M * k
  | 0 => Nat.le_refl _
  | k + 1 => by
    have ih := lines_size (b := b) hf k
    rw [linesT]
    split
    · rename_i r hr
      have := hf r (List.mem_of_getElem? hr)
      rw [ByteArray.size_append, Nat.mul_add, Nat.mul_one]
      omega
    · rw [Nat.mul_add]; omega

theorem graph_facts {ps ls : List (List NV)} (h : graphB ps ls = true) : (1 ≤ ps.length ∧ ps.length ≤ 60) ∧ ls.length ≤ 120 ∧ ∀ r ∈ ls, (0 ≤ (at_ r 0).gi ∧ (at_ r 0).gi ≤ 60) ∧ (0 ≤ (at_ r 1).gi ∧ (at_ r 1).gi ≤ 60) := by
  unfold graphB at h
  simp only [Bool.and_eq_true, decide_eq_true_eq, List.all_eq_true] at h
  obtain ⟨h1, h2, _, h4⟩ := h
  refine ⟨h1, h2, fun r hr => ?_⟩
  have := h4 r hr
  unfold linkB at this
  simp only [Bool.and_eq_true, decide_eq_true_eq] at this
  obtain ⟨⟨q1, q2⟩, _⟩ := this
  have q1 : 0 ≤ (at_ r 0).gi ∧ (at_ r 0).gi ≤ (ps.length : Int) - 1 := q1
  have q2 : 0 ≤ (at_ r 1).gi ∧ (at_ r 1).gi ≤ (ps.length : Int) - 1 := q2
  omega

theorem linkN_size {r : List NV} (h : (0 ≤ (at_ r 0).gi ∧ (at_ r 0).gi ≤ 60) ∧ (0 ≤ (at_ r 1).gi ∧ (at_ r 1).gi ≤ 60)) : (linkN r).size ≤ 100 := linkT_size _ _ _ _ _ _ (by omega) (by omega)

def linkS' (T3 T4 : ByteArray) (f : FuncId) (args : Array Value) (v : Value) : Prop :=
  (f = 21 → ∀ n : Nat, args = #[.int .i64 n] → v = .string (decS n)) ∧ (f = 67 → v = .string T3) ∧ (f = 53 → v = .string T4)

noncomputable def posesT (ps : List (List NV)) : Nat → ByteArray := linesT poseN graphW ps
noncomputable def graphT (ps ls : List (List NV)) : ByteArray := linesT linkN (posesT ps ps.length) ls ls.length

set_option maxRecDepth 100000 in
set_option maxHeartbeats 4000000 in
theorem c_l06Text (p : Nat) (A A' : Option Addr) (c c' : Nat) (ps ls : List (List NV)) (w : World) (hg : w.heap[p]? = some (.cells #[.slice A ps.length c, .slice A' ls.length c'] 49 (0, 0)))
    (h : Ls KPose 3 w w.heap.size A ps) (h' : Ls KLink 6 w w.heap.size A' ls) (hv : graphB ps ls = true) :
    Calls Tryd.prog 39 #[.pointer (some ⟨p, 0, none⟩)] w fun e w' => e = .returned (.string (graphT ps ls)) ∧ Stays w w' := by
  have H := Lib.hid h
  have H' := Lib.hid h'
  have HB := Lib.hid (boxed2 hg)
  obtain ⟨⟨hn1, hn⟩, hm, hl⟩ := graph_facts hv
  have hPS := Lib.hid (lines_size (f := poseN) (b := graphW) (xs := ps) (M := 40) fun r _ => poseT_size _ _ _)
  have hLS := Lib.hid (lines_size (f := linkN) (b := posesT ps ps.length) (xs := ls) (M := 100) fun r hr => linkN_size (hl r hr))
  have hgw : graphW.size = 6 := rfl
  have hW : (⟨#[103, 114, 97, 112, 104, 10]⟩ : ByteArray) = graphW := rfl
  have hw1 : (⟨#[112, 111, 115, 101, 32]⟩ : ByteArray) = poseW := rfl
  have hw2 : (⟨#[10]⟩ : ByteArray) = nlW := rfl
  have hw3 : (⟨#[32]⟩ : ByteArray) = spW := rfl
  have hw4 : (⟨#[108, 105, 110, 107, 32]⟩ : ByteArray) = link5 := rfl
  replace hl := Lib.hid hl
  clear h h' hg hv
  go_enter Tryd.func39, Tryd.ntmps39
  go_wp2
  go_loopw [3, 4] (fun v i wr => ∃ k : Nat, k ≤ ps.length ∧ i = .int .i64 k ∧ v = .string (posesT ps k) ∧ Hid (Below w.heap.size w wr)) (fun _ i _ => ps.length - (intOf i).toNat)
  case atStart => exact ⟨0, Nat.zero_le _, rfl, rfl, Lib.hid (Below.refl _ _)⟩
  case round =>
    obtain ⟨k, hk, rfl, rfl, hb⟩ := hrel
    obtain ⟨q0, q1⟩ := HB.out _ hb.out
    by_cases hlt : k < ps.length
    · obtain ⟨ad, rfl, hbl, hrow⟩ := (H.out.below hb.out) k ps[k] (List.getElem?_eq_getElem hlt)
      have hrk := List.getElem?_eq_getElem hlt
      generalize ps[k] = r at hrow hrk
      obtain ⟨c0, c1, c2, hK, g0, g1, g2⟩ := row3 rfl hrow
      obtain ⟨x, y, z, rfl, rfl, rfl, hx, hT⟩ := pose_words hK
      have hnx := Lib.hid (show posesT ps (k + 1) = posesT ps k ++ poseN r from lines_next hrk)
      have hsz : (posesT ps k).size ≤ 2406 := by have h1 := hPS.out k; have h2 : (posesT ps k).size ≤ graphW.size + 40 * k := h1; omega
      have kR := Lib.hid fun W => c_l06Numbers x y z W hx
      have hs := row3_size x y z
      have e1 : poseW.size = 5 := rfl
      have e2 : nlW.size = 1 := rfl
      unfold poseT at hT
      generalize rowT [x, y, z] = R3 at kR hs hT
      generalize poseN r = PN at hnx hT
      generalize posesT ps k = T at hnx hsz ⊢
      have p1 := fun W => run_string_add_sum (P := Tryd.prog) W poseW R3 (by omega)
      have p2 := fun W => run_string_add_sum (P := Tryd.prog) W (poseW ++ R3) nlW (by simp only [ByteArray.size_append]; omega)
      have p3 := fun W => run_string_add_sum (P := Tryd.prog) W T (poseW ++ R3 ++ nlW) (by simp only [ByteArray.size_append]; omega)
      have hlt' : (k : Int) < (ps.length : Int) := by omega
      replace hT := Lib.hid hT
      clear hK hrow hrk hx hs hsz e1 e2 hbl
      go_wp2_with (go_at_call 67; refine (kR.out _).mono ?_; rintro e w1 ⟨rfl, hb1⟩; have hb2 := Lib.hid (hb.out.trans (hb1.mono hb.out.size)); clear hb1 q0 q1)
      go_round
      case rel => exact ⟨k + 1, by omega, by go_num, by rw [hnx.out, ← hT.out], hb2⟩
      case measure => simp [intOf]; omega
    · have e : k = ps.length := by omega
      subst e
      have hsb : (posesT ps ps.length).size ≤ 2406 := by have h1 := hPS.out ps.length; have h2 : (posesT ps ps.length).size ≤ graphW.size + 40 * ps.length := h1; omega
      have hG := Lib.hid (show graphT ps ls = linesT linkN (posesT ps ps.length) ls ls.length from rfl)
      have hst0 : Hid (linesT linkN (posesT ps ps.length) ls 0 = posesT ps ps.length) := Lib.hid rfl
      generalize posesT ps ps.length = PT at hLS hsb hG hst0 ⊢
      go_wp2
      clear q0 q1 hk hlt
      go_loopw [3, 5] (fun v i wr => ∃ k : Nat, k ≤ ls.length ∧ i = .int .i64 k ∧ v = .string (linesT linkN PT ls k) ∧ Hid (Below w.heap.size w wr)) (fun _ i _ => ls.length - (intOf i).toNat)
      case atStart => exact ⟨0, Nat.zero_le _, rfl, by rw [hst0.out], hb⟩
      case round =>
        clear hb hst0
        obtain ⟨k, hk, rfl, rfl, hb⟩ := hrel
        obtain ⟨q0, q1⟩ := HB.out _ hb.out
        by_cases hlt : k < ls.length
        · obtain ⟨ad, rfl, hbl, hrow⟩ := (H'.out.below hb.out) k ls[k] (List.getElem?_eq_getElem hlt)
          have hrk := List.getElem?_eq_getElem hlt
          have hlr := hl.out ls[k] (List.getElem_mem hlt)
          generalize ls[k] = r at hrow hrk hlr
          obtain ⟨c0, c1, c2, c3, c4, c5, hK, g0, g1, g2, g3, g4, g5⟩ := row6 rfl hrow
          obtain ⟨f, t, x, y, z, d, ecs, hx, hd, hf0, ht0, hT⟩ := link_words hK hlr.1.1 hlr.2.1
          have hfb : f ≤ 60 := by have h1 := hlr.1.2; rw [← hf0] at h1; omega
          have htb : t ≤ 60 := by have h1 := hlr.2.2; rw [← ht0] at h1; omega
          simp only [List.cons.injEq, and_true] at ecs
          obtain ⟨rfl, rfl, rfl, rfl, rfl, rfl⟩ := ecs
          have hqb : (ad.add (k * 6)).block < wr.heap.size := by rw [block_add]; have := hb.out.size; omega
          have hnx := Lib.hid (show linesT linkN PT ls (k + 1) = linesT linkN PT ls k ++ linkN r from lines_next hrk)
          have hsz : (linesT linkN PT ls k).size ≤ 20000 := by have h1 := hLS.out k; omega
          have hsum := (link_sum f t x y z d).trans hT
          have k1 := Lib.hid fun (W : World) => c_Decimal f W (by omega)
          have k2 := Lib.hid fun (W : World) => c_Decimal t W (by omega)
          have k3 := Lib.hid fun W => c_l06Numbers x y z W hx
          have k4 := Lib.hid (show ∀ W, Calls Tryd.prog 53 #[.float .f32 d] W fun e w' => e = .returned (.string (hexB4 d)) ∧ Stays W w' from fun W => c_l01Hex d W hd)
          have z1 := decS_len (n := f) (by omega)
          have z2 := decS_len (n := t) (by omega)
          have z3 := row3_size x y z
          have z4 : (hexB4 d).size = 8 := hexT_size _
          generalize hT1 : decS f = T1 at k1 z1 hsum
          generalize hT2 : decS t = T2 at k2 z2 hsum
          generalize rowT [x, y, z] = T3 at k3 z3 hsum
          generalize hexB4 d = T4 at k4 z4 hsum
          generalize linkN r = LN at hnx hsum
          generalize linesT linkN PT ls k = L at hnx hsz ⊢
          have e1 : link5.size = 5 := rfl
          have e2 : spW.size = 1 := rfl
          have e3 : nlW.size = 1 := rfl
          have p1 := fun W => run_string_add_sum (P := Tryd.prog) W link5 T1 (by omega)
          have p2 := fun W => run_string_add_sum (P := Tryd.prog) W (link5 ++ T1) spW (by simp only [ByteArray.size_append]; omega)
          have p3 := fun W => run_string_add_sum (P := Tryd.prog) W (link5 ++ T1 ++ spW) T2 (by simp only [ByteArray.size_append]; omega)
          have p4 := fun W => run_string_add_sum (P := Tryd.prog) W (link5 ++ T1 ++ spW ++ T2) spW (by simp only [ByteArray.size_append]; omega)
          have p5 := fun W => run_string_add_sum (P := Tryd.prog) W (link5 ++ T1 ++ spW ++ T2 ++ spW) T3 (by simp only [ByteArray.size_append]; omega)
          have p6 := fun W => run_string_add_sum (P := Tryd.prog) W (link5 ++ T1 ++ spW ++ T2 ++ spW ++ T3) spW (by simp only [ByteArray.size_append]; omega)
          have p7 := fun W => run_string_add_sum (P := Tryd.prog) W (link5 ++ T1 ++ spW ++ T2 ++ spW ++ T3 ++ spW) T4 (by simp only [ByteArray.size_append]; omega)
          have p8 := fun W => run_string_add_sum (P := Tryd.prog) W (link5 ++ T1 ++ spW ++ T2 ++ spW ++ T3 ++ spW ++ T4) nlW (by simp only [ByteArray.size_append]; omega)
          have p9 := fun W => run_string_add_sum (P := Tryd.prog) W L (link5 ++ T1 ++ spW ++ T2 ++ spW ++ T3 ++ spW ++ T4 ++ nlW) (by simp only [ByteArray.size_append]; omega)
          have hlt' : (k : Int) < (ls.length : Int) := by omega
          have u1 := Lib.hid hT1
          have u2 := Lib.hid hT2
          replace hsum := Lib.hid hsum
          have hcells0 := Lib.hid fun W (hb' : Stays wr W) => (show W.cell? (ad.add (k * 6)) = some (.int .i64 (f : Int)) ∧ W.cell? ⟨(ad.add (k * 6)).block, (ad.add (k * 6)).off + 1, none⟩ = some (.int .i64 (t : Int)) ∧ W.cell? ⟨(ad.add (k * 6)).block, (ad.add (k * 6)).off + 2, none⟩ = some (.float .f32 x) ∧ W.cell? ⟨(ad.add (k * 6)).block, (ad.add (k * 6)).off + 3, none⟩ = some (.float .f32 y) ∧ W.cell? ⟨(ad.add (k * 6)).block, (ad.add (k * 6)).off + 4, none⟩ = some (.float .f32 z) ∧ W.cell? ⟨(ad.add (k * 6)).block, (ad.add (k * 6)).off + 5, none⟩ = some (.float .f32 d) from
            ⟨(Below.cell (p := ad.add (k * 6)) hb' hqb).trans g0, (Below.cell (p := ⟨(ad.add (k * 6)).block, (ad.add (k * 6)).off + 1, none⟩) hb' hqb).trans g1, (Below.cell (p := ⟨(ad.add (k * 6)).block, (ad.add (k * 6)).off + 2, none⟩) hb' hqb).trans g2, (Below.cell (p := ⟨(ad.add (k * 6)).block, (ad.add (k * 6)).off + 3, none⟩) hb' hqb).trans g3, (Below.cell (p := ⟨(ad.add (k * 6)).block, (ad.add (k * 6)).off + 4, none⟩) hb' hqb).trans g4, (Below.cell (p := ⟨(ad.add (k * 6)).block, (ad.add (k * 6)).off + 5, none⟩) hb' hqb).trans g5⟩)
          clear hK hrow hrk hlr hx hd hf0 ht0 hT hT1 hT2 hfb htb z1 z2 z3 z4 hsz e1 e2 e3 hbl hqb g0 g1 g2 g3 g4 g5
          go_wp2
          generalize ad.add (k * 6) = q at hcells0 ⊢
          have hcells := hcells0.out
          clear hcells0 q0 q1
          refine wp_region_soft_tail 30 (Stays.refl _) (linkS' T3 T4) [] (by kernel_rfl) (by kernel_rfl) (fun _ h => by cases h) ?_
          simp only [List.take_succ_cons, List.take_zero, List.drop_succ_cons, List.drop_zero]
          repeat (first | ((with_reducible apply soft_detG); (case hwa => rfl); (case hA => rfl); (case h => (intro w1 hw1; have hc := hcells w1 hw1; go_simp; exact rfl)); go_simp) | ((with_reducible apply soft_callS (v := .string T1)); (case hwa => rfl); (case hA => rfl); (case h => (intro w1 hw1; have hc := hcells w1 hw1; go_simp; exact ⟨rfl, rfl⟩)); (case hc => (intro w1 hw1; with_reducible exact k1.out w1)); (case hS => exact ⟨fun _ n e => (by have e2 := congrArg (fun a : Array Value => a[0]?) e; simp at e2; have e3 : f = n := (by omega); rw [← e3, u1.out]), fun e => absurd e (by decide), fun e => absurd e (by decide)⟩); (case hu => exact fun u hu => (hu.1 rfl f rfl).trans (by rw [u1.out])); go_simp) | ((with_reducible apply soft_callS (v := .string T2)); (case hwa => rfl); (case hA => rfl); (case h => (intro w1 hw1; have hc := hcells w1 hw1; go_simp; exact ⟨rfl, rfl⟩)); (case hc => (intro w1 hw1; with_reducible exact k2.out w1)); (case hS => exact ⟨fun _ n e => (by have e2 := congrArg (fun a : Array Value => a[0]?) e; simp at e2; have e3 : t = n := (by omega); rw [← e3, u2.out]), fun e => absurd e (by decide), fun e => absurd e (by decide)⟩); (case hu => exact fun u hu => (hu.1 rfl t rfl).trans (by rw [u2.out])); go_simp) | ((with_reducible apply soft_callS (v := .string T3)); (case hwa => rfl); (case hA => rfl); (case h => (intro w1 hw1; have hc := hcells w1 hw1; go_simp; exact ⟨rfl, rfl⟩)); (case hc => (intro w1 hw1; with_reducible exact k3.out w1)); (case hS => exact ⟨fun e => absurd e (by decide), fun _ => rfl, fun e => absurd e (by decide)⟩); (case hu => exact fun u hu => hu.2.1 rfl); go_simp) | ((with_reducible apply soft_callS (v := .string T4)); (case hwa => rfl); (case hA => rfl); (case h => (intro w1 hw1; have hc := hcells w1 hw1; go_simp; exact ⟨rfl, rfl⟩)); (case hc => (intro w1 hw1; with_reducible exact k4.out w1)); (case hS => exact ⟨fun e => absurd e (by decide), fun e => absurd e (by decide), fun _ => rfl⟩); (case hu => exact fun u hu => hu.2.2 rfl); go_simp))
          refine soft_nil ?_
          rintro w2 ⟨hw2, _⟩
          have hb2 := Lib.hid (hb.out.trans (Below.mono (show Below wr.heap.size wr w2 from hw2) hb.out.size))
          clear hw2 hcells
          go_wp2
          go_round
          case rel => exact ⟨k + 1, by omega, by go_num, by rw [hnx.out, ← hsum.out], hb2⟩
          case measure => simp [intOf]; omega
        · have e : k = ls.length := by omega
          subst e
          go_wp2
          go_ret
          exact ⟨congrArg (fun z => Ending.returned (Value.string z)) hG.out.symm, hb.out⟩
end Go.Proofs.YtpccnejchbachaaDoor

namespace Go.Proofs.YtpccnejchbachaaDoor
open Go Go.ChangeShapes Go.WideShapes Go.RowKit
set_option linter.unusedVariables false
set_option linter.unusedSimpArgs false

noncomputable def graphX (ps ls : List (List NV)) : ByteArray := if graphB ps ls then graphT ps ls else ⟨#[]⟩

set_option maxRecDepth 100000 in
set_option maxHeartbeats 1000000 in
theorem c_specGraphText (v : Value) (ps ls : List (List NV)) (w : World) (h : GrV w w.heap.size v ps ls) (hn : ps.length ≤ 1048576) (hm : ls.length ≤ 1048576) :
    Calls Tryd.prog 15 #[v] w fun e w' => e = .returned (.string (graphX ps ls)) ∧ Stays w w' := by
  obtain ⟨A, c, A', c', rfl, h1, h2⟩ := h.val
  have hbox := heap_alloc_new w (.cells #[.slice A ps.length c, .slice A' ls.length c'] 49)
  have hst : Stays w (w.alloc (.cells #[.slice A ps.length c, .slice A' ls.length c'] 49)) := by (repeat (first | exact Stays.refl _ | (with_reducible refine Stays.drewN ?_ _) | (with_reducible refine Stays.alloc ?_ _) | (with_reducible refine Stays.drew ?_) | (refine Stays.trans ?_ ‹Stays _ _›)))
  have kO := Lib.hid fun W (hb : Stays (w.alloc (.cells #[.slice A ps.length c, .slice A' ls.length c'] 49)) W) => c_l06Ok w.heap.size A A' c c' ps ls W (hb.heap (Array.getElem?_eq_some_iff.1 hbox).1 hbox) ((h1.below (hst.trans hb)).more (hst.trans hb).size) ((h2.below (hst.trans hb)).more (hst.trans hb).size) hn hm
  have kT := Lib.hid fun W (hb : Stays (w.alloc (.cells #[.slice A ps.length c, .slice A' ls.length c'] 49)) W) => c_l06Text w.heap.size A A' c c' ps ls W (hb.heap (Array.getElem?_eq_some_iff.1 hbox).1 hbox) ((h1.below (hst.trans hb)).more (hst.trans hb).size) ((h2.below (hst.trans hb)).more (hst.trans hb).size)
  replace hst := Lib.hid hst
  clear hbox h h1 h2
  unfold graphX
  cases hg : graphB ps ls with
  | false =>
    rw [hg] at kO
    clear hg
    simp only [Bool.false_eq_true, if_false]
    go_enter Tryd.func15, Tryd.ntmps15
    go_wp2_with fail
    refine (kO.out _ (Stays.refl _)).mono ?_
    rintro e w1 ⟨rfl, hb1⟩
    have hf := Lib.hid (hst.out.trans hb1)
    clear hb1
    go_wp2
    go_ret
    exact ⟨rfl, hf.out⟩
  | true =>
    rw [hg] at kO
    simp only [if_true]
    replace kT := Lib.hid fun W hb => kT.out W hb hg
    clear hg
    go_enter Tryd.func15, Tryd.ntmps15
    go_wp2_with fail
    refine (kO.out _ (Stays.refl _)).mono ?_
    rintro e w1 ⟨rfl, hb1⟩
    have hf := Lib.hid (show Stays (w.alloc (.cells #[.slice A ps.length c, .slice A' ls.length c'] 49)) w1 from hb1)
    clear hb1
    go_wp2_with fail
    refine (kT.out _ hf.out).mono ?_
    rintro e w2 ⟨rfl, hb2⟩
    have hf2 := Lib.hid (hst.out.trans (hf.out.trans hb2))
    clear hb2
    go_wp2
    go_ret
    exact ⟨rfl, hf2.out⟩

theorem stays_below {a b c : World} {B : Nat} (h : Stays a b) (k : Below B b c) (hB : a.heap.size ≤ B) : Stays a c := Below.trans h (k.mono hB)

theorem ba_back (a : ByteArray) : (⟨a.data.toList.toArray⟩ : ByteArray) = a := by
  apply ba_ext
  simp
theorem ba_len (a : ByteArray) : a.data.toList.length = a.size := Array.length_toList

set_option maxRecDepth 100000 in
set_option maxHeartbeats 4000000 in
theorem c_implGraphText (v : Value) (ps ls : List (List NV)) (w : World) (h : GrV w w.heap.size v ps ls) (hn : ps.length ≤ 1048576) (hm : ls.length ≤ 1048576) (hP : PowT w) :
    Calls Tryd.prog 17 #[v] w fun e w' => e = .returned (.string (graphX ps ls)) ∧ Stays w w' := by
  obtain ⟨A, c, A', c', rfl, h1, h2⟩ := h.val
  have hbox := heap_alloc_new w (.cells #[.slice A ps.length c, .slice A' ls.length c'] 49)
  have hst : Stays w (w.alloc (.cells #[.slice A ps.length c, .slice A' ls.length c'] 49)) := by (repeat (first | exact Stays.refl _ | (with_reducible refine Stays.drewN ?_ _) | (with_reducible refine Stays.alloc ?_ _) | (with_reducible refine Stays.drew ?_) | (refine Stays.trans ?_ ‹Stays _ _›)))
  have HB := Lib.hid fun W (hb : Stays (w.alloc (.cells #[.slice A ps.length c, .slice A' ls.length c'] 49)) W) => And.intro (row_of hb hbox 0) (row_of hb hbox 1)
  have kV := Lib.hid fun W (hb : Stays (w.alloc (.cells #[.slice A ps.length c, .slice A' ls.length c'] 49)) W) => c_implValidGraph (.agg #[.slice A ps.length c, .slice A' ls.length c']) ps ls W (h.on (hst.trans hb)) hn hm
  have H1 := Lib.hid fun W (hb : Stays w W) => (h1.below hb).more (hb.size)
  have H2 := Lib.hid fun W (hb : Stays w W) => (h2.below hb).more (hb.size)
  replace hst := Lib.hid hst
  replace hP := Lib.hid hP
  clear hbox h h1 h2
  unfold graphX
  cases hg : graphB ps ls with
  | false =>
    rw [hg] at kV
    clear hg
    simp only [Bool.false_eq_true, if_false]
    obtain ⟨q0, q1⟩ := HB.out _ (Stays.refl _)
    go_enter Tryd.func17, Tryd.ntmps17
    go_wp2_with fail
    refine (kV.out _ (Stays.refl _)).mono ?_
    rintro e w1 ⟨rfl, hb1⟩
    have hf := Lib.hid (hst.out.trans hb1)
    clear hb1 q0 q1
    go_wp2
    go_ret
    exact ⟨rfl, hf.out⟩
  | true =>
    rw [hg] at kV
    simp only [if_true]
    obtain ⟨⟨hn1, hn2⟩, hm2, hl⟩ := graph_facts hg
    replace hl := Lib.hid hl
    have hPS := Lib.hid (lines_size (f := poseN) (b := graphW) (xs := ps) (M := 40) fun r _ => poseT_size _ _ _)
    have hLS := Lib.hid (lines_size (f := linkN) (b := posesT ps ps.length) (xs := ls) (M := 100) fun r hr => linkN_size (hl.out r hr))
    have hgw : graphW.size = 6 := rfl
    have hW : (⟨#[103, 114, 97, 112, 104, 10]⟩ : ByteArray) = graphW := rfl
    have hG := Lib.hid (show graphT ps ls = linesT linkN (posesT ps ps.length) ls ls.length from rfl)
    clear hg hn hm
    obtain ⟨q0, q1⟩ := HB.out _ (Stays.refl _)
    go_enter Tryd.func17, Tryd.ntmps17
    go_wp2_with fail
    refine (kV.out _ (Stays.refl _)).mono ?_
    rintro e w1 ⟨rfl, hb1⟩
    replace hb1 := Lib.hid (show Stays (w.alloc (.cells #[.slice A ps.length c, .slice A' ls.length c'] 49)) w1 from hb1)
    clear q0 q1
    have hbl := Lib.hid (Bl.new w1)
    have hb2 := Lib.hid (hb1.out.trans (show Stays w1 (w1.alloc (.cells #[.pointer none, .slice none 0 0] 70)) from by (repeat (first | exact Stays.refl _ | (with_reducible refine Stays.drewN ?_ _) | (with_reducible refine Stays.alloc ?_ _) | (with_reducible refine Stays.drew ?_) | (refine Stays.trans ?_ ‹Stays _ _›)))))
    have hB0 : Hid (w.heap.size ≤ w1.heap.size) := Lib.hid (hst.out.trans hb1.out).size
    have hB1 : Hid ((w.alloc (.cells #[.slice A ps.length c, .slice A' ls.length c'] 49)).heap.size ≤ w1.heap.size) := Lib.hid hb1.out.size
    go_wp2_with fail
    refine (c_WriteString w1.heap.size w1.heap.size [] graphW _ hbl.out (by simp [hgw])).mono ?_
    rintro e w2 ⟨rfl, hbl2, hbb⟩
    replace hbl := Lib.hid (show Bl w1.heap.size w1.heap.size (posesT ps 0).data.toList w2 from hbl2)
    have hs2 := Lib.hid (show Stays (w.alloc (.cells #[.slice A ps.length c, .slice A' ls.length c'] 49)) w2 from Below.trans (show Below (w.alloc (.cells #[.slice A ps.length c, .slice A' ls.length c'] 49)).heap.size (w.alloc (.cells #[.slice A ps.length c, .slice A' ls.length c'] 49)) _ from hb2.out) (hbb.mono hB1.out))
    clear hbl2 hbb hb2 hb1
    generalize w1.heap.size = B at hbl hB0 hB1 ⊢
    obtain ⟨q0, q1⟩ := HB.out _ hs2.out
    go_wp2
    clear q0 q1
    go_loopw [15] (fun i wr => ∃ k : Nat, k ≤ ps.length ∧ i = .int .i64 k ∧ Hid (Bl B B (posesT ps k).data.toList wr) ∧ Hid (Stays (w.alloc (.cells #[.slice A ps.length c, .slice A' ls.length c'] 49)) wr)) (fun i _ => ps.length - (intOf i).toNat)
    case atStart => exact ⟨0, Nat.zero_le _, rfl, hbl, hs2⟩
    case round =>
      clear hbl hs2
      obtain ⟨k, hk, rfl, hBl, hs⟩ := hrel
      obtain ⟨q0, q1⟩ := HB.out _ hs.out
      by_cases hlt : k < ps.length
      · obtain ⟨ad, rfl, hbl, hrow⟩ := (H1.out wr (hst.out.trans hs.out)) k ps[k] (List.getElem?_eq_getElem hlt)
        have hrk := List.getElem?_eq_getElem hlt
        generalize ps[k] = r at hrow hrk
        obtain ⟨c0, c1, c2, hK, g0, g1, g2⟩ := row3 rfl hrow
        obtain ⟨x, y, z, rfl, rfl, rfl, hx, hT⟩ := pose_words hK
        have hnx := Lib.hid (show (posesT ps (k + 1)).data.toList = (posesT ps k).data.toList ++ (poseN r).data.toList from by rw [← ba_toList]; exact congrArg (fun b : ByteArray => b.data.toList) (lines_next hrk))
        have hsz : (posesT ps k).data.toList.length + (poseN r).size ≤ 100000 := by
          have h1 := hPS.out k; have h2 : (posesT ps k).size ≤ graphW.size + 40 * k := h1
          have h3 : (poseN r).size ≤ 40 := poseT_size _ _ _
          rw [ba_len]; omega
        have kR := Lib.hid fun W => c_poseText x y z W hx
        rw [hT] at kR
        generalize poseN r = PN at hnx kR hsz
        generalize (posesT ps k).data.toList = L at hnx hBl hsz
        have kW := Lib.hid fun W h => c_WriteString B B L PN W h hsz
        have hlt' : (k : Int) < (ps.length : Int) := by omega
        clear hK hrow hrk hx hsz hT hbl
        go_wp2_with (first
          | (go_at_call 43; refine (kR.out _).mono ?_; rintro e w4 ⟨rfl, hb4⟩; have hs4 := Lib.hid ((show Stays wr _ from by (repeat (first | exact Stays.refl _ | (with_reducible refine Stays.drewN ?_ _) | (with_reducible refine Stays.alloc ?_ _) | (with_reducible refine Stays.drew ?_) | (refine Stays.trans ?_ ‹Stays _ _›)))).trans hb4); clear hb4 q0 q1 g0 g1 g2)
          | (go_at_call 30; refine (kW.out _ (hBl.out.on hs4.out)).mono ?_; rintro e w5 ⟨rfl, hbl5, hb5⟩; have hs5 := Lib.hid (stays_below (hs.out.trans hs4.out) hb5 hB1.out); replace hbl5 := Lib.hid hbl5; clear hb5))
        go_round
        case rel => exact ⟨k + 1, by omega, by go_num, by rw [hnx.out]; exact hbl5, hs5⟩
        case measure => simp [intOf]; omega
      · have e : k = ps.length := by omega
        subst e
        have hsb : (posesT ps ps.length).size ≤ 2406 := by have h1 := hPS.out ps.length; have h2 : (posesT ps ps.length).size ≤ graphW.size + 40 * ps.length := h1; omega
        replace hBl := Lib.hid (show Bl B B (linesT linkN (posesT ps ps.length) ls 0).data.toList wr from hBl.out)
        generalize posesT ps ps.length = PT at hLS hsb hG hBl
        go_wp2
        clear q0 q1 hk hlt
        go_loopw [26] (fun i wr => ∃ k : Nat, k ≤ ls.length ∧ i = .int .i64 k ∧ Hid (Bl B B (linesT linkN PT ls k).data.toList wr) ∧ Hid (Stays (w.alloc (.cells #[.slice A ps.length c, .slice A' ls.length c'] 49)) wr)) (fun i _ => ls.length - (intOf i).toNat)
        case atStart => exact ⟨0, Nat.zero_le _, rfl, hBl, hs⟩
        case round =>
          clear hBl hs
          obtain ⟨k, hk, rfl, hBl, hs⟩ := hrel
          obtain ⟨q0, q1⟩ := HB.out _ hs.out
          by_cases hlt : k < ls.length
          · obtain ⟨ad, rfl, hbl, hrow⟩ := (H2.out wr (hst.out.trans hs.out)) k ls[k] (List.getElem?_eq_getElem hlt)
            have hrk := List.getElem?_eq_getElem hlt
            have hlr := hl.out ls[k] (List.getElem_mem hlt)
            generalize ls[k] = r at hrow hrk hlr
            have hln := linkN_size hlr
            obtain ⟨c0, c1, c2, c3, c4, c5, hK, g0, g1, g2, g3, g4, g5⟩ := row6 rfl hrow
            obtain ⟨f, t, x, y, z, d, ecs, hx, hd, hf0, ht0, hT⟩ := link_words hK hlr.1.1 hlr.2.1
            have hfb : f ≤ 60 := by have h1 := hlr.1.2; rw [← hf0] at h1; omega
            have htb : t ≤ 60 := by have h1 := hlr.2.2; rw [← ht0] at h1; omega
            simp only [List.cons.injEq, and_true] at ecs
            obtain ⟨rfl, rfl, rfl, rfl, rfl, rfl⟩ := ecs
            have hnx := Lib.hid (show (linesT linkN PT ls (k + 1)).data.toList = (linesT linkN PT ls k).data.toList ++ (linkN r).data.toList from by rw [← ba_toList]; exact congrArg (fun b : ByteArray => b.data.toList) (lines_next hrk))
            have hsz : (linesT linkN PT ls k).data.toList.length + (linkN r).size ≤ 100000 := by
              have h1 := hLS.out k
              rw [ba_len]; omega
            have kR := Lib.hid fun W (hp : PowT W) => c_linkText f t x y z d W (by omega) (by omega) hx hd hp
            rw [hT] at kR
            generalize linkN r = PN at hnx kR hsz
            generalize (linesT linkN PT ls k).data.toList = L at hnx hBl hsz
            have kW := Lib.hid fun W h => c_WriteString B B L PN W h hsz
            have hlt' : (k : Int) < (ls.length : Int) := by omega
            clear hK hrow hrk hx hsz hT hbl hlr hd hf0 ht0 hfb htb hln
            go_wp2_with (first
              | (go_at_call 44; refine (kR.out _ (hP.out.on (hst.out.trans (hs.out.trans (show Stays wr _ from by (repeat (first | exact Stays.refl _ | (with_reducible refine Stays.drewN ?_ _) | (with_reducible refine Stays.alloc ?_ _) | (with_reducible refine Stays.drew ?_) | (refine Stays.trans ?_ ‹Stays _ _›)))))))).mono ?_; rintro e w4 ⟨rfl, hb4⟩; have hs4 := Lib.hid ((show Stays wr _ from by (repeat (first | exact Stays.refl _ | (with_reducible refine Stays.drewN ?_ _) | (with_reducible refine Stays.alloc ?_ _) | (with_reducible refine Stays.drew ?_) | (refine Stays.trans ?_ ‹Stays _ _›)))).trans hb4); clear hb4 q0 q1 g0 g1 g2 g3 g4 g5)
              | (go_at_call 30; refine (kW.out _ (hBl.out.on hs4.out)).mono ?_; rintro e w5 ⟨rfl, hbl5, hb5⟩; have hs5 := Lib.hid (stays_below (hs.out.trans hs4.out) hb5 hB1.out); replace hbl5 := Lib.hid hbl5; clear hb5))
            go_round
            case rel => exact ⟨k + 1, by omega, by go_num, by rw [hnx.out]; exact hbl5, hs5⟩
            case measure => simp [intOf]; omega
          · have e : k = ls.length := by omega
            subst e
            have kS := Lib.hid (c_String B B _ wr hBl.out)
            clear q0 q1
            go_wp2_with fail
            refine kS.out.mono ?_
            rintro e w4 ⟨rfl, hb4⟩
            have hf : Hid (Stays w w4) := Lib.hid (Below.trans (show Below w.heap.size w wr from hst.out.trans hs.out) (hb4.mono hB0.out))
            clear hb4
            go_wp2
            go_ret
            exact ⟨congrArg (fun z => Ending.returned (Value.string z)) ((ba_back _).trans hG.out.symm), hf.out⟩
end Go.Proofs.YtpccnejchbachaaDoor

namespace Go.Proofs.YtpccnejchbachaaDoor
open Go Go.ChangeShapes Go.WideShapes Go.RowKit
set_option linter.unusedVariables false
set_option linter.unusedSimpArgs false

set_option maxRecDepth 100000 in
set_option maxHeartbeats 1000000 in
theorem c_lawGraphText (v : Value) (ps ls : List (List NV)) (w : World) (h : GrV w w.heap.size v ps ls) (hn : ps.length ≤ 9223372036854775807) (hm : ls.length ≤ 9223372036854775807) (hP : PowT w) :
    Calls Tryd.prog 5 #[v] w fun e w' => e = .returned (.bool true) ∧ Below w.heap.size w w' := by
  obtain ⟨A, c, A', c', rfl, HB⟩ := boxGr 43 h
  clear h
  replace HB := Lib.hid HB
  replace hP := Lib.hid hP
  have hsz := fun W => c_szPoseGraph A A' c c' ps.length ls.length 1048576 W hn hm (by omega) (by omega)
  by_cases hl : (1048576 : Int) - ps.length - ls.length < 0
  · simp only [if_pos hl] at hsz
    replace hsz := Lib.hid hsz
    go_enter Tryd.func5, Tryd.ntmps5
    go_wp2_with fail
    refine (hsz.out _).mono ?_
    rintro e w1 ⟨rfl, hb⟩
    go_wp2
    go_ret
    exact ⟨rfl, (HB.out _ hb).1.2⟩
  · simp only [if_neg hl] at hsz
    have hn' : ps.length ≤ 1048576 := by omega
    have hm' : ls.length ≤ 1048576 := by omega
    have hX : ¬ ((1048576 : Int) - ps.length - ls.length < 0) := hl
    generalize (1048576 : Int) - ps.length - ls.length = X at hX hsz
    replace hsz := Lib.hid hsz
    clear hl hn hm
    go_enter Tryd.func5, Tryd.ntmps5
    go_wp2_with fail
    refine (hsz.out _).mono ?_
    rintro e w1 ⟨rfl, hb⟩
    have hb1 := Lib.hid (show Stays _ w1 from hb)
    clear hb
    generalize (w.alloc (.cells #[.slice A ps.length c, .slice A' ls.length c'] 43)) = W0 at HB hb1
    obtain ⟨⟨⟨q0, q1⟩, _⟩, hg⟩ := HB.out _ hb1.out
    replace hg := Lib.hid hg
    go_wp2_with fail
    refine (c_toGr _ ps ls w1 hg.out hn' hm').mono ?_
    rintro e w2 ⟨v1, rfl, hb, hv1⟩
    have hb2 := Lib.hid (hb1.out.trans hb)
    clear hb
    replace hv1 := Lib.hid hv1
    go_wp2_with fail
    refine (c_specGraphText v1 ps ls w2 hv1.out hn' hm').mono ?_
    rintro e w3 ⟨rfl, hb⟩
    have hb3 := Lib.hid (hb2.out.trans hb)
    clear hb hv1 q0 q1 hg
    obtain ⟨⟨⟨q0, q1⟩, _⟩, hg⟩ := HB.out _ hb3.out
    replace hg := Lib.hid hg
    go_wp2_with fail
    refine (c_toGr _ ps ls w3 hg.out hn' hm').mono ?_
    rintro e w4 ⟨v2, rfl, hb, hv2⟩
    have hb4 := Lib.hid (hb3.out.trans hb)
    clear hb q0 q1 hg
    obtain ⟨D, d, D', d', rfl, HX⟩ := boxGr 49 hv2
    clear hv2
    replace HX := Lib.hid HX
    go_wp2_with fail
    have hb4x := Lib.hid (hb4.out.trans (show Stays w4 (w4.alloc (.cells #[.slice D ps.length d, .slice D' ls.length d'] 49)) from by (repeat (first | exact Stays.refl _ | (with_reducible refine Stays.drewN ?_ _) | (with_reducible refine Stays.alloc ?_ _) | (with_reducible refine Stays.drew ?_) | (refine Stays.trans ?_ ‹Stays _ _›)))))
    have hxx := Lib.hid (Stays.refl (w4.alloc (.cells #[.slice D ps.length d, .slice D' ls.length d'] 49)))
    generalize (w4.alloc (.cells #[.slice D ps.length d, .slice D' ls.length d'] 49)) = WX at HX hb4x hxx ⊢
    refine (c_implGraphText _ ps ls WX (HX.out _ hxx.out).2 hn' hm' (hP.out.on (show Stays w WX from (HB.out _ hb4x.out).1.2))).mono ?_
    rintro e w5 ⟨rfl, hb⟩
    have hb5 := Lib.hid (hb4x.out.trans hb)
    replace hxx := Lib.hid (hxx.out.trans hb)
    clear hb
    obtain ⟨⟨⟨q0, q1⟩, _⟩, hg⟩ := HB.out _ hb5.out
    replace hg := Lib.hid hg
    obtain ⟨⟨⟨x0, x1⟩, _⟩, hvx⟩ := HX.out _ hxx.out
    clear hvx
    generalize graphB ps ls = bg
    have G : Hid (∀ w', Stays w5 w' → (w'.cell? ⟨w.heap.size, 0, none⟩ = some (.slice A ps.length c) ∧ w'.cell? ⟨w.heap.size, 1, none⟩ = some (.slice A' ls.length c') ∧ w'.cell? ⟨w4.heap.size, 0, none⟩ = some (.slice D ps.length d) ∧ w'.cell? ⟨w4.heap.size, 1, none⟩ = some (.slice D' ls.length d') ∧ Hid (Stays w5 w'))) := Lib.hid fun w' h => ⟨(HB.out _ (hb5.out.trans h)).1.1.1, (HB.out _ (hb5.out.trans h)).1.1.2, (HX.out _ (hxx.out.trans h)).1.1.1, (HX.out _ (hxx.out.trans h)).1.1.2, Lib.hid h⟩
    have h5 := Lib.hid (show Stays w5 w5.drew from (Stays.refl w5).drew)
    cases bg
    all_goals
      go_wp2_with fail
      go_region_held (fun w' => (w'.cell? ⟨w.heap.size, 0, none⟩ = some (.slice A ps.length c) ∧ w'.cell? ⟨w.heap.size, 1, none⟩ = some (.slice A' ls.length c') ∧ w'.cell? ⟨w4.heap.size, 0, none⟩ = some (.slice D ps.length d) ∧ w'.cell? ⟨w4.heap.size, 1, none⟩ = some (.slice D' ls.length d') ∧ Hid (Stays w5 w'))) (first | exact G.out _ h5.out | exact G.out _ h6.out | exact G.out _ h7.out)
        (first
          | (go_at_call 16; refine (c_toGr _ ps ls _ (HB.out _ (hb5.out.trans h5.out)).2 hn' hm').mono ?_; rintro e w6 ⟨v3, rfl, hb, hv3⟩; have h6 := Lib.hid (h5.out.trans hb); clear hb; replace hv3 := Lib.hid hv3)
          | (go_at_call 18; refine (c_eqPoseGraph _ v3 ps ls w6 (HX.out _ (hxx.out.trans h6.out)).2 hv3.out hn' hm').mono ?_; rintro e w7 ⟨rfl, hb⟩; have h7 := Lib.hid (h6.out.trans hb); clear hb))
      go_wp2
      go_ret
      exact ⟨rfl, (HB.out _ (hb5.out.trans h7.out)).1.2⟩
end Go.Proofs.YtpccnejchbachaaDoor
