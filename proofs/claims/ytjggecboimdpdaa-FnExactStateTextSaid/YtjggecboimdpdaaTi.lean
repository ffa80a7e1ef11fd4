/- The text of a grid, the program's side. No condition. -/
import Derived.Test.YtjggecboimdpdaaTh
namespace Go.Proofs.Ytjggecboimdpdaa
open Go Go.ChangeShapes Go.WideShapes Go.RowKit
set_option linter.unusedVariables false
set_option linter.unusedSimpArgs false

/-- A builder that holds bytes. -/
def Bl (B b : Nat) (l : List UInt8) (w : World) : Prop := Lib.IsBuilder 88 5 B b (Lib.byteCells l) w ∧ B ≤ w.heap.size

theorem Bl.on {B b : Nat} {l : List UInt8} {w w' : World} (h : Bl B b l w) (hs : Stays w w') : Bl B b l w' := by
  obtain ⟨h1, h2⟩ := h
  have k : ∀ g, g < w.heap.size → w'.heap[g]? = w.heap[g]? := fun g hg => Below.block hs g hg
  have at_ : ∀ p, Lib.BuilderAt 88 5 B b p (Lib.byteCells l) w → Lib.BuilderAt 88 5 B b p (Lib.byteCells l) w' := by
    rintro p ⟨hB, v, hb, ⟨ho1, ho2⟩, hne⟩
    refine ⟨hB, v, (k b (Array.getElem?_eq_some_iff.1 hb).1).trans hb, ⟨ho1, ?_⟩, hne⟩
    rcases ho2 with h2 | ⟨g, cap, cur, hv, hb', hg, hr⟩
    · exact .inl h2
    · exact .inr ⟨g, cap, cur, hv, hb', (k g (Array.getElem?_eq_some_iff.1 hg).1).trans hg, hr⟩
  exact ⟨h1.elim (fun h => .inl (at_ _ h)) (fun h => .inr (at_ _ h)), Nat.le_trans h2 hs.size⟩

theorem Bl.new (w : World) : Bl w.heap.size w.heap.size [] (w.alloc (.cells #[.pointer none, .slice none 0 0] 88)) :=
  ⟨Lib.fresh_isBuilder _ _ w, by simp⟩

theorem c_WriteByte (B b : Nat) (l : List UInt8) (c : UInt8) (w : World) (h : Bl B b l w) (hl : l.length ≤ 100000) :
    Calls Try.prog 58 #[.pointer (some ⟨b, 0, none⟩), .int .u8 (c.toNat : Int)] w fun e w' => e = .returned .nilIface ∧ Bl B b (l ++ [c]) w' ∧ Below B w w' := by
  refine (Any.Builder_WriteByte lays167 Builder_Extra_156 B b (Lib.byteCells l) (c.toNat : Int) w h.1 (by rw [show (Lib.byteCells l).length = l.length from List.length_map ..]; omega) h.2).mono ?_
  rintro e w' ⟨rfl, h1, h2⟩
  refine ⟨rfl, ⟨.inr ?_, Nat.le_trans h.2 h2.size⟩, h2⟩
  rw [cells_snoc]
  exact h1

theorem c_String (B b : Nat) (l : List UInt8) (w : World) (h : Bl B b l w) :
    Calls Try.prog 51 #[.pointer (some ⟨b, 0, none⟩)] w fun e w' => e = .returned (.string ⟨l.toArray⟩) ∧ Below B w w' :=
  Any.Builder_String_any lays169 Builder_Extra_156 B b l w h.1 h.2

def sgL (xs : List Int) : List UInt8 := xs.map sgB
theorem sgL_len (xs : List Int) : (sgL xs).length = xs.length := List.length_map ..

theorem sgL_take {R : List Int} {x : Nat} (h : x < R.length) : sgL (R.take (x + 1)) = sgL (R.take x) ++ [sgB R[x]] := by
  rw [List.take_add_one, List.getElem?_eq_getElem h]
  unfold sgL
  rw [List.map_append]
  rfl

theorem gtx_row (W : Nat) (xs : List Int) (y : Nat) : ∀ x, x < W → W * y + x ≤ xs.length → gtx W xs (W * y + x) = gtx W xs (W * y) ++ sgL ((xs.drop (W * y)).take x)
  | 0, _, _ => by simp [sgL]
  | x + 1, h, hl => by
    have ih := gtx_row W xs y x (by omega) (by omega)
    have hx : xs[W * y + x]? = some xs[W * y + x] := List.getElem?_eq_getElem (by omega)
    have hm : (W * y + x + 1) % W = x + 1 := by rw [Nat.add_assoc, Nat.mul_add_mod]; exact Nat.mod_eq_of_lt h
    rw [← Nat.add_assoc, gtx_next hx, ih]
    unfold lastB
    rw [hm, if_neg (by omega), List.append_nil]
    have e : (xs.drop (W * y)).take (x + 1) = (xs.drop (W * y)).take x ++ [xs[W * y + x]] := by
      rw [List.take_add_one, List.getElem?_drop, hx]; rfl
    rw [e]
    simp [sgL]

theorem gtx_end (W : Nat) (xs : List Int) (y : Nat) (hW : 1 ≤ W) (hl : W * (y + 1) ≤ xs.length) : gtx W xs (W * (y + 1)) = gtx W xs (W * y) ++ sgL ((xs.drop (W * y)).take W) ++ [10] := by
  obtain ⟨x, rfl⟩ : ∃ x, W = x + 1 := ⟨W - 1, by omega⟩
  have e1 : (x + 1) * (y + 1) = (x + 1) * y + x + 1 := by rw [Nat.mul_add, Nat.mul_one]; omega
  have ih := gtx_row (x + 1) xs y x (by omega) (by omega)
  have hx : xs[(x + 1) * y + x]? = some xs[(x + 1) * y + x] := List.getElem?_eq_getElem (by omega)
  have hm : ((x + 1) * y + x + 1) % (x + 1) = 0 := by rw [← e1]; exact Nat.mul_mod_right _ _
  rw [e1, gtx_next hx, ih]
  unfold lastB
  rw [hm, if_pos rfl]
  have e : (xs.drop ((x + 1) * y)).take (x + 1) = (xs.drop ((x + 1) * y)).take x ++ [xs[(x + 1) * y + x]] := by
    rw [List.take_add_one, List.getElem?_drop, hx]; rfl
  rw [e]
  simp [sgL]

theorem add_add (ad : Addr) (m i : Nat) : (ad.add m).add i = ad.add (m + i) := by
  unfold Addr.add
  by_cases h : m = 0
  · subst h; simp
  · by_cases h2 : i = 0
    · subst h2; simp [h]
    · have : ¬ (m + i = 0) := by omega
      simp [h, h2, this, Nat.add_assoc]

theorem Bs.sub {w : World} {B : Nat} {ad : Addr} {xs : List Int} (h : Bs w B (some ad) xs) (m n : Nat) : Bs w B (some (ad.add m)) ((xs.drop m).take n) := fun i r hr => by
  rw [List.getElem?_take] at hr
  split at hr
  · rw [List.getElem?_drop] at hr
    obtain ⟨ad', e, hlt, hrow⟩ := h (m + i) r hr
    cases e
    refine ⟨_, rfl, by rw [block_add]; exact hlt, ?_⟩
    rw [Nat.mul_one] at hrow ⊢
    rw [add_add]
    exact hrow
  · cases hr

set_option maxRecDepth 100000 in
set_option maxHeartbeats 1000000 in
theorem c_implGridText (a b : Int) (A : Option Addr) (c : Nat) (xs : List Int) (w : World) (h : Bs w w.heap.size A xs) (hx : ∀ x ∈ xs, 0 ≤ x ∧ x ≤ 255) (hn : xs.length ≤ 1048576) (hc : xs.length ≤ c) :
    Calls Try.prog 27 #[.agg #[.int .i64 a, .int .i64 b, .slice A xs.length c]] w fun e w' => e = .returned (.string (if gridB a b xs.length then ⟨(gtx a.toNat xs xs.length).toArray⟩ else ⟨#[]⟩)) ∧ Below w.heap.size w w' := by
  have hbox := heap_alloc_new w (.cells #[.int .i64 a, .int .i64 b, .slice A xs.length c] 56)
  have hst : Stays w (w.alloc (.cells #[.int .i64 a, .int .i64 b, .slice A xs.length c] 56)) := by (repeat (first | exact Stays.refl _ | (with_reducible refine Stays.drewN ?_ _) | (with_reducible refine Stays.alloc ?_ _) | (with_reducible refine Stays.drew ?_) | (refine Stays.trans ?_ ‹Stays _ _›)))
  have HB := Lib.hid fun W (hb : Stays (w.alloc (.cells #[.int .i64 a, .int .i64 b, .slice A xs.length c] 56)) W) => And.intro (And.intro (row_of hb hbox 0) (And.intro (row_of hb hbox 1) (row_of hb hbox 2))) (And.intro ((h.below (hst.trans hb)).more (hst.trans hb).size) (show Stays w W from hst.trans hb))
  have kV := Lib.hid fun W (hb : Stays w W) => c_implValidGrid (.agg #[.int .i64 a, .int .i64 b, .slice A xs.length c]) a b xs W ⟨A, c, rfl, (h.below hb).more hb.size⟩ hn
  have HX := Lib.hid hx
  have hm : ∀ g, gridB a b xs.length = g → (if g = true then (⟨(gtx a.toNat xs xs.length).toArray⟩ : ByteArray) else ⟨#[]⟩) = (if gridB a b xs.length then ⟨(gtx a.toNat xs xs.length).toArray⟩ else ⟨#[]⟩) := fun g e => by rw [e]
  replace hst := Lib.hid hst
  clear hbox hx h
  cases hg : gridB a b xs.length with
  | false =>
    rw [hg] at kV
    clear hg hm
    go_enter Try.func27, Try.ntmps27
    obtain ⟨⟨q0, q1, q2⟩, _⟩ := HB.out _ (Stays.refl _)
    go_wp2_with fail
    refine (kV.out _ hst.out).mono ?_
    rintro e w1 ⟨rfl, hb⟩
    replace hb := Lib.hid (hst.out.trans hb)
    go_wp2
    go_ret
    exact ⟨rfl, hb.out⟩
  | true =>
    rw [hg] at kV
    obtain ⟨ha, hb, hab⟩ := gridB_iff.1 hg
    clear hg hm
    obtain ⟨W, rfl⟩ : ∃ W : Nat, a = W := ⟨a.toNat, by omega⟩
    obtain ⟨Hh, rfl⟩ : ∃ Hh : Nat, b = Hh := ⟨b.toNat, by omega⟩
    have hW : (W : Int).toNat = W := by omega
    rw [hW]
    simp only [if_true]
    have hlen : Hid (xs.length = W * Hh) := Lib.hid (by exact_mod_cast hab)
    clear hab hW
    go_enter Try.func27, Try.ntmps27
    obtain ⟨⟨q0, q1, q2⟩, _⟩ := HB.out _ (Stays.refl _)
    go_wp2_with fail
    refine (kV.out _ hst.out).mono ?_
    rintro e w1 ⟨rfl, hb1⟩
    replace hb1 := Lib.hid (show Stays _ w1 from hb1)
    clear q0 q1 q2
    have hbl := Lib.hid (Bl.new w1)
    have hb2 := Lib.hid (hb1.out.trans (show Stays w1 (w1.alloc (.cells #[.pointer none, .slice none 0 0] 88)) from by (repeat (first | exact Stays.refl _ | (with_reducible refine Stays.drewN ?_ _) | (with_reducible refine Stays.alloc ?_ _) | (with_reducible refine Stays.drew ?_) | (refine Stays.trans ?_ ‹Stays _ _›)))))
    obtain ⟨⟨q0, q1, q2⟩, _⟩ := HB.out _ hb2.out
    go_wp2
    clear q0 q1 q2
    generalize (w1.alloc (.cells #[.pointer none, .slice none 0 0] 88)) = W2 at hbl hb2 ⊢
    have hb1t : Hid ((w.alloc (.cells #[.int .i64 (W : Nat), .int .i64 (Hh : Nat), .slice A xs.length c] 56)).heap.size ≤ w1.heap.size) := Lib.hid hb1.out.size
    have hb1s : Hid (w.heap.size ≤ w1.heap.size) := Lib.hid (hst.out.trans hb1.out).size
    generalize hw1 : w1.heap.size = B at hbl hb1s hb1t ⊢
    clear hw1
    have hb3 := Lib.hid (hst.out.trans hb2.out)
    go_loopw [12] (fun i wr => ∃ y : Nat, y ≤ Hh ∧ i = .int .i64 y ∧ Hid (Bl B B (gtx W xs (W * y)) wr) ∧ Hid (Stays w wr) ∧ Hid (Stays (w.alloc (.cells #[.int .i64 (W : Nat), .int .i64 (Hh : Nat), .slice A xs.length c] 56)) wr)) (fun i _ => Hh - (intOf i).toNat)
    case atStart => exact ⟨0, Nat.zero_le _, rfl, hbl, hb3, hb2⟩
    case round =>
      obtain ⟨y, hy, rfl, hBl, hs0, hs1⟩ := hrel
      obtain ⟨⟨q0, q1, q2⟩, hrows, _⟩ := HB.out _ hs1.out
      by_cases hlt : y < Hh
      · have hlt' : (y : Int) < (Hh : Int) := by omega
        have hle : W * (y + 1) ≤ xs.length := by rw [hlen.out]; exact Nat.mul_le_mul_left _ hlt
        have hmul : W * (y + 1) = W * y + W := by rw [Nat.mul_add, Nat.mul_one]
        obtain ⟨ad, eA, hz1, hz2⟩ := Bs.at_ hrows (List.getElem?_eq_getElem (show 0 < xs.length by omega))
        subst eA
        have kR := Lib.hid fun W1 => c_row (W : Nat) (Hh : Nat) (y : Nat) ad c xs.length W1 ha hb ⟨by omega, by omega⟩ (by rw [hlen.out]; exact_mod_cast rfl) hc
        have hsub := Lib.hid fun W' (h' : Stays (w.alloc (.cells #[.int .i64 (W : Nat), .int .i64 (Hh : Nat), .slice (some ad) xs.length c] 56)) W') => Bs.sub (HB.out W' h').2.1 (W * y) W
        have hend := Lib.hid (gtx_end W xs y (by omega) hle)
        have hgl := gtx_len W xs (W * y)
        have hrl : ((xs.drop (W * y)).take W).length = W := by rw [List.length_take, List.length_drop]; omega
        have hRX : ∀ x ∈ (xs.drop (W * y)).take W, 0 ≤ x ∧ x ≤ 255 := fun x hx => HX.out x (List.mem_of_mem_drop (List.mem_of_mem_take hx))
        have hadd : ((y : Int) * (W : Int)).toNat = W * y := by rw [Int.mul_comm]; exact Int.toNat_natCast _
        have hWW : ((W : Nat) : Int).toNat = W := by omega
        rw [hadd, hWW] at kR
        generalize (xs.drop (W * y)).take W = R at hsub hend hrl hRX
        replace hRX := Lib.hid hRX
        generalize gtx W xs (W * y) = L at hBl hend hgl
        have hgl' : L.length ≤ 2000 := by have : W * Hh ≤ 24 * 24 := Nat.mul_le_mul (by omega) (by omega); have := hlen.out; omega
        generalize ad.add (W * y) = q at kR hsub
        clear hz1 hz2
        clear hgl hrows hle hmul hadd hWW
        go_wp2_with fail
        refine (kR.out _).mono ?_
        rintro e w3 ⟨rfl, hw3⟩
        have hBl3 := Lib.hid (hBl.out.on hw3)
        have hs03 := Lib.hid (hs0.out.trans hw3)
        have hs13 := Lib.hid (hs1.out.trans hw3)
        clear hw3 q0 q1 q2
        go_wp2
        go_loopw [19] (fun i wr => ∃ x : Nat, x ≤ W ∧ i = .int .i64 x ∧ Hid (Bl B B (L ++ sgL (R.take x)) wr) ∧ Hid (Stays w wr) ∧ Hid (Stays (w.alloc (.cells #[.int .i64 (W : Nat), .int .i64 (Hh : Nat), .slice (some ad) xs.length c] 56)) wr)) (fun i _ => W - (intOf i).toNat)
        case atStart => exact ⟨0, Nat.zero_le _, rfl, by simpa [sgL] using hBl3, hs03, hs13⟩
        case round =>
          obtain ⟨x, hxW, rfl, hBx, hsx0, hsx1⟩ := hrel
          by_cases hxl : x < W
          · have hxl' : (x : Int) < (W : Int) := by omega
            obtain ⟨ad', e', hbl', hcell⟩ := Bs.at_ (hsub.out _ hsx1.out) (List.getElem?_eq_getElem (show x < R.length by omega))
            cases e'
            have kC := c_costMark R[x] wr (hRX.out _ (List.getElem_mem _))
            rw [← sgB_nat] at kC
            have htk : Hid (L ++ sgL (R.take (x + 1)) = (L ++ sgL (R.take x)) ++ [sgB R[x]]) := Lib.hid (by rw [sgL_take (by omega), List.append_assoc])
            have hll : (L ++ sgL (R.take x)).length ≤ 100000 := by rw [List.length_append, sgL_len, List.length_take]; omega
            generalize L ++ sgL (R.take x) = M at hBx htk hll
            generalize R[x] = r at hcell kC htk
            generalize sgB r = sb at kC htk
            have kW := c_WriteByte B B M sb wr hBx.out hll
            replace kC := Lib.hid kC
            replace kW := Lib.hid kW
            clear hbl' hll
            go_wp2_with fail
            refine kC.out.mono ?_
            rintro e w5 ⟨rfl, rfl⟩
            go_wp2_with fail
            refine kW.out.mono ?_
            rintro e w6 ⟨rfl, h6, hb6⟩
            replace h6 := Lib.hid h6
            have hs6 : Hid (Stays w w6) := Lib.hid (Below.trans (show Below w.heap.size w wr from hsx0.out) (hb6.mono hb1s.out))
            have hs7 : Hid (Stays (w.alloc (.cells #[.int .i64 (W : Nat), .int .i64 (Hh : Nat), .slice (some ad) xs.length c] 56)) w6) := Lib.hid (Below.trans (show Below _ _ wr from hsx1.out) (hb6.mono hb1t.out))
            clear hb6 hcell
            go_wp2
            go_round
            case rel => exact ⟨x + 1, by omega, by go_num, by rw [htk.out]; exact h6, hs6, hs7⟩
            case measure => simp [intOf]; omega
          · have e : x = W := by omega
            subst e
            rw [List.take_of_length_le (by omega)] at hBx
            have hll : (L ++ sgL R).length ≤ 100000 := by rw [List.length_append, sgL_len]; omega
            have kW := c_WriteByte B B (L ++ sgL R) 10 wr hBx.out hll
            rw [← hend.out] at kW
            replace kW := Lib.hid (show Calls Try.prog 58 #[.pointer (some ⟨B, 0, none⟩), .int .u8 10] wr _ from kW)
            clear hll
            go_wp2_with fail
            refine kW.out.mono ?_
            rintro e w6 ⟨rfl, h6, hb6⟩
            replace h6 := Lib.hid h6
            have hs6 : Hid (Stays w w6) := Lib.hid (Below.trans (show Below w.heap.size w wr from hsx0.out) (hb6.mono hb1s.out))
            have hs7 : Hid (Stays (w.alloc (.cells #[.int .i64 (x : Nat), .int .i64 (Hh : Nat), .slice (some ad) xs.length c] 56)) w6) := Lib.hid (Below.trans (show Below _ _ wr from hsx1.out) (hb6.mono hb1t.out))
            clear hb6
            go_wp2
            go_round
            case rel => exact ⟨y + 1, by omega, by go_num, h6, hs6, hs7⟩
            case measure => simp [intOf]; omega
      · have e : y = Hh := by omega
        subst e
        have kS := Lib.hid (c_String B B _ wr hBl.out)
        go_wp2_with fail
        refine kS.out.mono ?_
        rintro e w4 ⟨rfl, hb4⟩
        have hf : Hid (Stays w w4) := Lib.hid (Below.trans (show Below w.heap.size w wr from hs0.out) (hb4.mono hb1s.out))
        go_wp2
        go_ret
        refine ⟨?_, hf.out⟩
        rw [hlen.out]
        rfl
end Go.Proofs.Ytjggecboimdpdaa
