/- Lists of bytes, and grids as two numbers and a list of costs: counted, copied, compared, marked, opened. No condition. -/
import Derived.Test.YtejljfejajckoaaGv
namespace Go.Proofs.Ytejljfejajckoaa
open Go Go.ChangeShapes Go.WideShapes Go.RowKit
set_option linter.unusedVariables false
set_option linter.unusedSimpArgs false

abbrev KB : List Kd := [.i .u8]
abbrev oneI (x : Int) : List NV := [NV.i x]
abbrev Bs (w : World) (B : Nat) (A : Option Addr) (xs : List Int) : Prop := Rows KB 1 oneI w B A xs
abbrev PutB (w wr : World) (xs : List Int) (k : Nat) : Prop := Put KB 1 oneI w wr xs k
abbrev LiesB (w : World) (g : Nat) (v : Value) (xs : List Int) : Prop := LiesR KB 1 oneI w g v xs

theorem byte_at {w : World} {p : Addr} {x : Int} (h : RowAt KB w p (oneI x)) : w.cell? p = some (.int .u8 x) := by
  obtain ⟨c0, ⟨hk, _⟩, hc⟩ := row1 rfl h
  have hk : c0 = .int .u8 x := hk
  subst hk
  exact hc

theorem Bs.at_ {w : World} {B : Nat} {A : Option Addr} {xs : List Int} (h : Bs w B A xs) {i : Nat} {x : Int} (hx : xs[i]? = some x) : ∃ ad, A = some ad ∧ ad.block < B ∧ w.cell? (ad.add i) = some (.int .u8 x) := by
  obtain ⟨ad, e, hlt, hr⟩ := h i x hx
  rw [Nat.mul_one] at hr
  exact ⟨ad, e, hlt, byte_at hr⟩

set_option maxRecDepth 100000 in
set_option maxHeartbeats 400000 in
theorem c_eqByteS (A A' : Option Addr) (c c' : Nat) (xs : List Int) (w : World) (h : Bs w w.heap.size A xs) (h' : Bs w w.heap.size A' xs) (hn : xs.length ≤ 1048576) :
    Calls Try.prog 67 #[.slice A xs.length c, .slice A' xs.length c'] w fun e w' => e = .returned (.bool true) ∧ Below w.heap.size w w' := by
  have H := Lib.hid h
  have H' := Lib.hid h'
  clear h h'
  go_enter Try.func67, Try.ntmps67
  go_wp2
  go_loopw [5] (fun i wr => ∃ k : Nat, k ≤ xs.length ∧ i = .int .i64 k ∧ Hid (Below w.heap.size w wr)) (fun i _ => xs.length - (intOf i).toNat)
  case atStart => exact ⟨0, Nat.zero_le _, rfl, Lib.hid (Below.refl _ _)⟩
  case round =>
    obtain ⟨k, hk, rfl, hb⟩ := hrel
    by_cases hlt : k < xs.length
    · obtain ⟨ad, rfl, _, hc⟩ := Bs.at_ (H.out.below hb.out) (List.getElem?_eq_getElem hlt)
      obtain ⟨ad', rfl, _, hc'⟩ := Bs.at_ (H'.out.below hb.out) (List.getElem?_eq_getElem hlt)
      generalize xs[k] = x at hc hc'
      have hlt' : (k : Int) < (xs.length : Int) := by omega
      go_wp2
      go_region
      go_wp2
      go_round
      case rel => exact ⟨k + 1, by omega, by go_num, Lib.hid hb.out.drew⟩
      case measure => simp [intOf]; omega
    · go_wp2
      go_ret
      exact ⟨rfl, hb.out⟩

theorem infoByte : (Try.prog.info? 5).map (fun i => (i.zero, i.size, i.bytes)) = some (some (.int .u8 0), 1, 1) := by kernel_rfl

theorem PutB.step {w wr : World} {xs : List Int} {k : Nat} {x : Int} (h : PutB w wr xs k) (hr : xs[k]? = some x) : PutB w (wr.setCell ⟨w.heap.size, k, none⟩ (.int .u8 x)) xs (k + 1) := by
  have := (h.next (cs := #[.int .u8 x]) rfl (Below.refl _ wr) hr ⟨rfl, trivial⟩ (by decide)).2
  rw [Nat.mul_one] at this
  exact this

theorem trod_rowsG {H : Type} {enc : TypeId × Value → H} {w : World} {held : Bool} {ts te : TypeId} {K : List Kd} {n : Nat} (hu : Try.prog.underlying ts = some (.slice te)) (hn : K.length = n) (h0 : 0 < n) (hC : Try.prog.cellsOf te = n) (hS : scalK Try.prog 12 te = some K)
    {fuel : Nat} {cs : List Value} {x : DataW H × List MemPlace} (h : DataW.trod enc Try.prog w 0 (fun _ => true) held fuel ts cs = some x) : ∃ (A : Option Addr) (xs : List (List NV)) (c : Nat), cs = [.slice A xs.length c] ∧ Ls K n w w.heap.size A xs ∧ xs.length ≤ 9223372036854775807 ∧ ∀ (i : Nat) (r : List NV), xs[i]? = some r → RGs K r := by
  rcases Deep.open_slice hu h with ⟨h0, _⟩ | ⟨a, len, cap, m, nn, D, Pl, hcs, hb, hl, hm, hmm, hx, hi⟩
  · exact ⟨none, [], 0, h0, fun i r hr => by simp at hr, by simp, fun i r hr => by simp at hr⟩
  · obtain ⟨rs, hrs, hp⟩ := pick (p := fun i (r : List NV) => (a.block < w.heap.size ∧ RowAt K w (a.add (i * n)) r) ∧ RGs K r) len (by
      intro i hil
      have him : i < m := by rw [hmm]; simp; omega
      obtain ⟨cs', hc, ht⟩ := hi i him
      rw [hC] at hc
      obtain ⟨ins, hk, hrg⟩ := trod_scal 12 _ _ _ _ _ hS ht
      obtain ⟨_, hcl, hat⟩ := World.cells?_some hc
      have hat' : ∀ j u, cs'[j]? = some u → w.cell? (cellAt (a.add (i * n)) j) = some u := fun j u hu => by
        have hj := (List.getElem?_eq_some_iff.1 hu).1
        have g := hat j (by omega)
        rw [hu] at g
        cases j with
        | zero => exact g
        | succ j => exact g
      have hlt := World.block_lt_of_cell? _ _ (hat' 0 cs'[0] (List.getElem?_eq_getElem (by omega)))
      have e : (cellAt (a.add (i * n)) 0).block = a.block := block_add a (i * n)
      rw [e] at hlt
      exact ⟨ins, ⟨hlt, cs', hk, hat'⟩, hrg⟩)
    refine ⟨some a, rs, cap, by rw [hcs, hrs], fun i r hr => ?_, by rw [hrs]; unfold maxLen at hm; omega, fun i r hr => (hp i r hr).2⟩
    exact ⟨a, rfl, (hp i r hr).1⟩

/-- Bytes that are told by their places. -/
structure MarkedB (w wr : World) (g n : Nat) (k0 : Int) (i : Nat) : Prop where
  there : wr.there g 0 n
  same : ∀ g', g' ≠ g → Same w wr g'
  below : ∀ B, B ≤ g → Below B w wr
  cells : ∀ j, j < i → wr.cell? ⟨g, j, none⟩ = some (.int .u8 (IntKind.u8.wrap (k0 + (j : Nat))))

theorem MarkedB.next {w wr : World} {g n i : Nat} {k0 : Int} (h : MarkedB w wr g n k0 i) (hi : i < n) : MarkedB w (wr.setCell ⟨g, i, none⟩ (.int .u8 (IntKind.u8.wrap (k0 + (i : Nat))))) g n k0 (i + 1) := by
  refine ⟨World.there_setCells h.there g i [_], fun g' hg => (h.same g' hg).trans (same_sets g g' i [_] _ hg), fun B hB => bel_sets hB [_] _ _ (h.below B hB), fun j hj => ?_⟩
  by_cases e : j = i
  · subst e
    have := World.rangeAt_setCells_same wr g j [.int .u8 (IntKind.u8.wrap (k0 + (j : Nat)))] (there_part h.there _ _ (by show j + 1 ≤ _; omega))
    exact this 0 _ rfl
  · have hr : wr.rangeAt g j [.int .u8 (IntKind.u8.wrap (k0 + (j : Nat)))] := fun m u hu => by
      cases m with
      | zero => cases hu; exact h.cells j (by omega)
      | succ m => simp at hu
    exact World.rangeAt_setCells_apart hr g i [_] (Or.inr (Or.inl (by show j + 1 ≤ i; omega))) 0 _ rfl

set_option maxRecDepth 100000 in
set_option maxHeartbeats 400000 in
theorem c_markB (A : Option Addr) (g c n : Nat) (k0 : Int) (w : World) (hA : 0 < n → A = some ⟨g, 0, none⟩) (ht : w.there g 0 n) (hn : n ≤ 1048576) (h0 : 0 ≤ k0 ∧ k0 ≤ 100) :
    Calls Try.prog 70 #[.slice A n c, .int .i64 k0] w fun e w' => e = .returned (.int .i64 (k0 + (n : Nat))) ∧ MarkedB w w' g n k0 n := by
  have HT := Lib.hid ht
  have HA := Lib.hid hA
  clear ht hA
  go_enter Try.func70, Try.ntmps70
  go_wp2
  go_loopw [1, 5] (fun kv iv wr => ∃ i : Nat, i ≤ n ∧ iv = .int .i64 i ∧ kv = .int .i64 (k0 + (i : Nat)) ∧ Hid (MarkedB w wr g n k0 i)) (fun _ iv _ => n - (intOf iv).toNat)
  case atStart => exact ⟨0, Nat.zero_le _, rfl, by simp, Lib.hid ⟨HT.out, fun g' _ => ⟨fun _ _ => rfl, fun _ _ => rfl, Nat.le_refl _⟩, fun B _ => Below.refl _ _, fun j hj => by omega⟩⟩
  case round =>
    obtain ⟨i, hi, rfl, rfl, hm⟩ := hrel
    by_cases hlt : i < n
    · have hlt' : (i : Int) < (n : Int) := by omega
      have hAe := HA.out (by omega)
      subst hAe
      obtain ⟨u0, hu0⟩ := Option.isSome_iff_exists.1 ((there_part hm.out.there i 1 (by omega)) 0 (by omega)).1
      have hf0 := ((there_part hm.out.there i 1 (by omega)) 0 (by omega)).2
      rw [Nat.add_zero] at hu0 hf0
      have hnx := Lib.hid (hm.out.next hlt)
      have hb : 0 ≤ k0 + (i : Int) ∧ k0 + (i : Int) ≤ 4194500 := by omega
      generalize hK : k0 + (i : Int) = K at hb hnx
      have hK := Lib.hid hK
      go_wp2
      go_round
      case rel => exact ⟨i + 1, by omega, by go_num, by rw [show k0 + ((i + 1 : Nat) : Int) = K + 1 from by rw [← hK.out]; omega], hnx⟩
      case measure => simp [intOf]; omega
    · have e : i = n := by omega
      subst e
      go_wp2
      go_ret
      exact ⟨rfl, hm.out⟩

set_option maxRecDepth 100000 in
set_option maxHeartbeats 400000 in
theorem c_heldB (A : Option Addr) (g c n : Nat) (k0 : Int) (w : World) (hA : 0 < n → A = some ⟨g, 0, none⟩) (hr : ∀ j, j < n → w.cell? ⟨g, j, none⟩ = some (.int .u8 (IntKind.u8.wrap (k0 + (j : Nat))))) (hn : n ≤ 1048576) (h0 : 0 ≤ k0 ∧ k0 ≤ 100) :
    Calls Try.prog 71 #[.slice A n c, .int .i64 k0] w fun e w' => e = .returned (.int .i64 (k0 + (n : Nat))) ∧ w = w' := by
  have HR := Lib.hid hr
  have HA := Lib.hid hA
  clear hr hA
  go_enter Try.func71, Try.ntmps71
  go_wp2
  go_loop [1, 5] (fun kv iv => ∃ i : Nat, i ≤ n ∧ iv = .int .i64 i ∧ kv = .int .i64 (k0 + (i : Nat))) (fun _ iv => n - (intOf iv).toNat)
  case atStart => exact ⟨0, Nat.zero_le _, rfl, by simp⟩
  case round =>
    obtain ⟨i, hi, rfl, rfl⟩ := hrel
    by_cases hlt : i < n
    · have hlt' : (i : Int) < (n : Int) := by omega
      have hAe := HA.out (by omega)
      subst hAe
      have hc := HR.out i hlt
      have hb : 0 ≤ k0 + (i : Int) ∧ k0 + (i : Int) ≤ 4194500 := by omega
      generalize hK : k0 + (i : Int) = K at hb hc
      have hK := Lib.hid hK
      go_wp2
      go_round
      case rel => exact ⟨i + 1, by omega, by go_num, by rw [show k0 + ((i + 1 : Nat) : Int) = K + 1 from by rw [← hK.out]; omega]⟩
      case measure => simp [intOf]; omega
    · have e : i = n := by omega
      subst e
      go_wp2
      go_ret
      exact ⟨rfl, rfl⟩

/-- A grid as a value. -/
structure GdV (w : World) (B : Nat) (v : Value) (a b : Int) (xs : List Int) : Prop where
  val : ∃ A c, v = .agg #[.int .i64 a, .int .i64 b, .slice A xs.length c] ∧ Bs w B A xs

theorem GdV.on {w w' : World} {v : Value} {a b : Int} {xs : List Int} (h : GdV w w.heap.size v a b xs) (hb : Below w.heap.size w w') : GdV w' w'.heap.size v a b xs := by
  obtain ⟨A, c, e, h1⟩ := h.val
  exact ⟨A, c, e, (h1.below hb).more hb.size⟩

set_option maxRecDepth 100000 in
set_option maxHeartbeats 800000 in
theorem c_eqGrid (v v' : Value) (a b : Int) (xs : List Int) (w : World) (h : GdV w w.heap.size v a b xs) (h' : GdV w w.heap.size v' a b xs) (hn : xs.length ≤ 1048576) :
    Calls Try.prog 15 #[v, v'] w fun e w' => e = .returned (.bool true) ∧ Below w.heap.size w w' := by
  obtain ⟨A, c, rfl, h1⟩ := h.val
  obtain ⟨A', c', rfl, h2⟩ := h'.val
  have hb : Below w.heap.size w ((w.alloc (.cells #[.int .i64 a, .int .i64 b, .slice A xs.length c] 30)).alloc (.cells #[.int .i64 a, .int .i64 b, .slice A' xs.length c'] 30)) := show Stays w _ from by (repeat (first | exact Stays.refl _ | (with_reducible refine Stays.drewN ?_ _) | (with_reducible refine Stays.alloc ?_ _) | (with_reducible refine Stays.drew ?_) | (refine Stays.trans ?_ ‹Stays _ _›)))
  have k1 := fun W (hb : Below w.heap.size w W) => c_eqByteS A A' c c' xs W ((h1.below hb).more hb.size) ((h2.below hb).more hb.size) hn
  replace k1 := Lib.hid (k1 _ hb)
  replace hb := Lib.hid hb
  clear h1 h2 h h'
  go_enter Try.func15, Try.ntmps15
  go_wp2_with (go_at_call 67; refine k1.out.mono ?_; rintro e w1 ⟨rfl, hw1⟩)
  go_ret
  exact ⟨rfl, hb.out.trans (hw1.mono hb.out.size)⟩

theorem block_same {w w' : World} {g : Nat} (h : w'.heap[g]? = w.heap[g]?) (hs : w.heap.size ≤ w'.heap.size) : Same w w' g :=
  ⟨fun p hp => by subst hp; unfold World.cell?; rw [h], fun p hp => by subst hp; unfold World.frozen?; rw [h], hs⟩

/-- A grid in a block of its own. -/
theorem boxGd (t : TypeId) {w : World} {v : Value} {a b : Int} {xs : List Int} (h : GdV w w.heap.size v a b xs) : ∃ A c, v = .agg #[.int .i64 a, .int .i64 b, .slice A xs.length c] ∧
    ∀ w1, Stays (w.alloc (.cells #[.int .i64 a, .int .i64 b, .slice A xs.length c] t)) w1 → ((w1.cell? ⟨w.heap.size, 0, none⟩ = some (.int .i64 a) ∧ w1.cell? ⟨w.heap.size, 1, none⟩ = some (.int .i64 b) ∧ w1.cell? ⟨w.heap.size, 2, none⟩ = some (.slice A xs.length c)) ∧ Below w.heap.size w w1) ∧ GdV w1 w1.heap.size (.agg #[.int .i64 a, .int .i64 b, .slice A xs.length c]) a b xs := by
  obtain ⟨A, c, rfl, h1⟩ := h.val
  refine ⟨A, c, rfl, fun w1 hb => ?_⟩
  have hb' : Below w.heap.size w w1 := (show Stays w _ from by (repeat (first | exact Stays.refl _ | (with_reducible refine Stays.drewN ?_ _) | (with_reducible refine Stays.alloc ?_ _) | (with_reducible refine Stays.drew ?_) | (refine Stays.trans ?_ ‹Stays _ _›)))).trans hb
  exact ⟨⟨⟨row_of hb (heap_alloc_new w _) 0, row_of hb (heap_alloc_new w _) 1, row_of hb (heap_alloc_new w _) 2⟩, hb'⟩, h.on hb'⟩

end Go.Proofs.Ytejljfejajckoaa
