/- Ways: whether points are one, on both sides; squares and lengths. No condition. -/
import Derived.Test.YtejljfejajckoaaGFloat32A2
import Derived.Test.YtejljfejajckoaaGv
import Derived.Test.YtejljfejajckoaaLa
import Derived.Test.YtejljfejajckoaaB3
import Derived.Test.YtejljfejajckoaaB10
import Derived.Test.YtejljfejajckoaaOSqu
namespace Go.Proofs.Ytejljfejajckoaa
open Go Go.RowKit
set_option linter.unusedVariables false
set_option linter.unusedSimpArgs false

section
variable {P : Program} {ops : Array Oper} {W : World} {S : FuncId → Array Value → Value → Prop} {A : List (Tmp × Array Value × TypeId)}

/-- A call of which it is known what it may give. -/
theorem soft_callW {fid : FuncId} {A0 : Array Value} {V : Value → Prop} {Q : Act → Prop} {a : Act} {o : Oper} {rest : List Oper} (hwa : Region.wanted o (yielded ops a.tmps) = true) (hA : (A.all fun e => o.dst != some e.1) = true)
    (h : ∀ w, Stays W w → (execOp a.eval o).run P w = .ok (.enter fid A0) w)
    (hc : ∀ w, Stays W w → Calls P fid A0 w fun e w' => ∃ v, e = .returned v ∧ V v ∧ Stays w w')
    (hS : ∀ v, V v → S fid A0 v) (hu : ∀ v, S fid A0 v → V v)
    (hK : ∀ v, V v → wpSoft P ops W S A Q rest (a.put o.dst v)) : wpSoft P ops W S A Q (o :: rest) a := by
  refine ⟨fun _ w hw => ?_, not_listed hA a, ?_, fun u hu' => ?_⟩
  · rw [h w hw]
    exact ⟨rfl, (hc w hw).mono fun e w' ⟨v, he, hv, hs⟩ => ⟨v, he, hS v hv, hs⟩⟩
  · obtain ⟨_, _, _, ⟨v, _, hv, _⟩, _⟩ := hc W (Stays.refl W) []
    exact ⟨v, Or.inl ⟨hwa, W, Stays.refl W, by rw [h W (Stays.refl W)]; exact hS v hv⟩⟩
  · rcases hu' with ⟨_, w, hw, hu'⟩ | ⟨hn, _⟩
    · rw [h w hw] at hu'
      exact hK u (hu u hu')
    · rw [hwa] at hn; cases hn
end

abbrev KPt : List Kd := KFloat32A2

theorem pt_cells {cs : List Value} {r : List NV} (h : KMs KPt cs r) : ∃ x y, cs = [.float .f32 x, .float .f32 y] ∧ FIs .f32 x (r.getD 0 (.i 0)).gf ∧ FIs .f32 y (r.getD 1 (.i 0)).gf := by
  have hr := KMs_rlen h
  have hl := KMs_len h
  match cs, r, hl, hr, h with
  | [_, _], [n0, n1], _, _, ⟨⟨x, hx, hfx⟩, ⟨y, hy, hfy⟩, _⟩ =>
    subst hx hy
    exact ⟨x, y, rfl, hfx, hfy⟩

def finP (r : List NV) : Bool := finB (r.getD 0 (.i 0)).gf && finB (r.getD 1 (.i 0)).gf
def goodP (xs : List (List NV)) (j : Nat) : Prop := ∀ r, xs[j]? = some r → finP r = true

open Classical in
noncomputable def wayB (xs : List (List NV)) : Bool := decide (∀ j, goodP xs j) && decide (1 ≤ xs.length ∧ xs.length ≤ 600)

theorem wayB_bad {xs : List (List NV)} {k : Nat} (h : ¬ goodP xs k) : wayB xs = false := by
  unfold wayB
  rw [@decide_eq_false _ (Classical.propDecidable _) fun g => h (g k)]
  rfl
theorem wayB_len {xs : List (List NV)} (h : ¬ (1 ≤ xs.length ∧ xs.length ≤ 600)) : wayB xs = false := by
  unfold wayB
  rw [decide_eq_false h, Bool.and_false]
theorem wayB_end {xs : List (List NV)} {k : Nat} (hk : xs.length ≤ k) (h : ∀ j, j < k → goodP xs j) : wayB xs = decide (1 ≤ xs.length ∧ xs.length ≤ 600) := by
  unfold wayB
  rw [@decide_eq_true _ (Classical.propDecidable _) fun j => ?_, Bool.true_and]
  by_cases hj : j < k
  · exact h j hj
  · intro m hm
    rw [List.getElem?_eq_none (by omega)] at hm
    cases hm

theorem goodP_next {xs : List (List NV)} {k : Nat} (h : ∀ j, j < k → goodP xs j) (hk : goodP xs k) : ∀ j, j < k + 1 → goodP xs j := fun j hj => by
  by_cases e : j = k
  · subst e; exact hk
  · exact h j (by omega)

theorem goodP_at {xs : List (List NV)} {k : Nat} {r : List NV} (h : xs[k]? = some r) : goodP xs k ↔ finP r = true := by
  unfold goodP
  rw [h]
  exact ⟨fun g => g _ rfl, fun g m e => by cases e; exact g⟩

set_option maxRecDepth 100000 in
set_option maxHeartbeats 1000000 in
theorem c_l07Way (A : Option Addr) (c : Nat) (xs : List (List NV)) (w : World) (h : Ls KPt 2 w w.heap.size A xs) (hn : xs.length ≤ 1048576) :
    Calls Try.prog 132 #[.slice A xs.length c] w fun e w' => e = .returned (.bool (wayB xs)) ∧ Below w.heap.size w w' := by
  have H := Lib.hid h
  clear h
  go_enter Try.func132, Try.ntmps132
  go_wp2
  go_loopw [3] (fun i wr => ∃ k : Nat, k ≤ xs.length ∧ i = .int .i64 k ∧ Hid (Below w.heap.size w wr) ∧ Hid (∀ j, j < k → goodP xs j)) (fun i _ => xs.length - (intOf i).toNat)
  case atStart => exact ⟨0, Nat.zero_le _, rfl, Lib.hid (Below.refl _ _), Lib.hid fun j hj => by omega⟩
  case round =>
    obtain ⟨k, hk, rfl, hb, hgd⟩ := hrel
    by_cases hlt : k < xs.length
    · obtain ⟨ad, rfl, hbl, hrow⟩ := (H.out.below hb.out) k xs[k] (List.getElem?_eq_getElem hlt)
      have hrk := List.getElem?_eq_getElem hlt
      generalize xs[k] = r at hrow hrk
      obtain ⟨c0, c1, hK, g0, g1⟩ := row2 rfl hrow
      obtain ⟨x, y, e, hx, hy⟩ := pt_cells hK
      cases e
      have hlt' : (k : Int) < (xs.length : Int) := by omega
      have hfp : finP r = (finB (can .f32 x) && finB (can .f32 y)) := by unfold finP; rw [hx.out, hy.out]
      have hgk := goodP_at hrk
      rw [hfp] at hgk
      have hg1 : ∀ w', Stays wr w' → w'.cell? ⟨(ad.add (k * 2)).block, (ad.add (k * 2)).off + 1, none⟩ = some (.float .f32 y) := fun w' hs => (Below.cell (p := ⟨(ad.add (k * 2)).block, (ad.add (k * 2)).off + 1, none⟩) hs (by show (ad.add (k * 2)).block < _; rw [block_add]; exact Nat.lt_of_lt_of_le hbl hb.out.size)).trans g1
      replace hg1 := Lib.hid hg1
      have k0 := Lib.hid fun W => c_l01Finite x W
      have k1 := Lib.hid fun W => c_l01Finite y W
      clear hfp hK hrow hx hy hrk
      cases hx0 : finB (can .f32 x) with
      | false =>
        have bd := Lib.hid (wayB_bad (k := k) fun h => by have := hgk.1 h; rw [hx0] at this; cases this)
        rw [hx0] at k0
        clear hgk hx0
        go_wp2_with (go_at_call 81; refine (k0.out _).mono ?_; rintro e w1 ⟨rfl, hw1⟩)
        go_ret
        exact ⟨ret_b (by rw [bd.out]), hb.out.trans (hw1.mono hb.out.size)⟩
      | true =>
        rw [hx0] at k0
        cases hy0 : finB (can .f32 y) with
        | false =>
          have bd := Lib.hid (wayB_bad (k := k) fun h => by have := hgk.1 h; rw [hx0, hy0] at this; cases this)
          rw [hy0] at k1
          clear hgk hx0 hy0
          go_wp2_with fail
          refine (k0.out _).mono ?_
          rintro e w1 ⟨rfl, hw1⟩
          have q1 := hg1.out _ hw1
          replace hw1 := Lib.hid hw1
          go_wp2_with fail
          refine (k1.out _).mono ?_
          rintro e w2 ⟨rfl, hw2⟩
          go_wp2
          go_ret
          exact ⟨ret_b (by rw [bd.out]), hb.out.trans ((hw1.out.trans hw2).mono hb.out.size)⟩
        | true =>
          have nx := Lib.hid (goodP_next hgd.out (hgk.2 (by rw [hx0, hy0]; rfl)))
          rw [hy0] at k1
          clear hgk hx0 hy0
          go_wp2_with fail
          refine (k0.out _).mono ?_
          rintro e w1 ⟨rfl, hw1⟩
          have q1 := hg1.out _ hw1
          replace hw1 := Lib.hid hw1
          go_wp2_with fail
          refine (k1.out _).mono ?_
          rintro e w2 ⟨rfl, hw2⟩
          replace hw2 := Lib.hid (hb.out.trans ((hw1.out.trans hw2).mono hb.out.size))
          go_wp2
          go_round
          case rel => exact ⟨k + 1, by omega, by go_num, hw2, nx⟩
          case measure => simp [intOf]; omega
    · have fin := Lib.hid (wayB_end (by omega) hgd.out)
      have kI := Lib.hid fun W => c_l00In xs.length 1 600 W
      go_wp2_with (go_at_call 123; refine (kI.out _).mono ?_; rintro e w1 ⟨rfl, rfl⟩)
      go_ret
      exact ⟨ret_b (by rw [fin.out, ← Bool.decide_and]; exact decide_eq_decide.2 (by omega)), hb.out⟩

set_option maxRecDepth 100000 in
set_option maxHeartbeats 1000000 in
theorem c_areFinite2 (g x y : Nat) (w : World) (h : ∀ w1, Stays w w1 → w1.cell? ⟨g, 0, none⟩ = some (.float .f32 x) ∧ w1.cell? ⟨g, 1, none⟩ = some (.float .f32 y)) :
    Calls Try.prog 62 #[.slice (some ⟨g, 0, none⟩) 2 2] w fun e w' => e = .returned (.bool (finB (can .f32 x) && finB (can .f32 y))) ∧ Stays w w' := by
  have H := Lib.hid h
  have k0 := Lib.hid fun W => c_isFinite x W
  have k1 := Lib.hid fun W => c_isFinite y W
  clear h
  obtain ⟨q0, q1⟩ := H.out w (Stays.refl w)
  cases hx0 : finB (can .f32 x) with
  | false =>
    rw [hx0] at k0
    clear hx0
    go_enter Try.func62, Try.ntmps62
    go_wp2
    refine wp_loop_rounds 1 ?_
    rw [rounds_succ]
    go_wp2_with (go_at_call 86; refine (k0.out _).mono ?_; rintro e w1 ⟨rfl, hw1⟩)
    go_ret
    exact ⟨rfl, hw1⟩
  | true =>
    rw [hx0] at k0
    clear hx0
    generalize finB (can .f32 y) = b at k1 ⊢
    cases b
    all_goals
      go_enter Try.func62, Try.ntmps62
      go_wp2
      refine wp_loop_rounds 3 ?_
      rw [rounds_succ]
      go_wp2_with fail
      refine (k0.out _).mono ?_
      rintro e w1 ⟨rfl, hw1⟩
      clear q0 q1
      obtain ⟨q0, q1⟩ := H.out w1 hw1
      replace hw1 := Lib.hid hw1
      go_wp2
      rw [rounds_succ]
      go_wp2_with fail
      refine (k1.out _).mono ?_
      rintro e w2 ⟨rfl, hw2⟩
      replace hw2 := Lib.hid (hw1.out.trans hw2)
      go_wp2
      try rw [rounds_succ]
      try go_wp2
      go_ret
      exact ⟨rfl, hw2.out⟩

set_option maxRecDepth 100000 in
set_option maxHeartbeats 1000000 in
theorem c_isWay (A : Option Addr) (c : Nat) (xs : List (List NV)) (w : World) (h : Ls KPt 2 w w.heap.size A xs) (hn : xs.length ≤ 1048576) :
    Calls Try.prog 74 #[.slice A xs.length c] w fun e w' => e = .returned (.bool (wayB xs)) ∧ Below w.heap.size w w' := by
  have H := Lib.hid h
  clear h
  by_cases h0 : xs.length = 0
  · have h0' : ((xs.length : Nat) : Int) = 0 := by omega
    have bd := Lib.hid (wayB_len (xs := xs) (by omega))
    go_enter Try.func74, Try.ntmps74
    go_wp2
    go_ret
    exact ⟨ret_b (by rw [bd.out]), Below.refl _ _⟩
  · have h0' : ¬ ((xs.length : Nat) : Int) = 0 := by omega
    by_cases h600 : xs.length ≤ 600
    · have h600' : ((xs.length : Nat) : Int) ≤ 600 := by omega
      have h600'' : ¬ ((xs.length : Nat) : Int) > 600 := by omega
      go_enter Try.func74, Try.ntmps74
      go_wp2
      go_loopw [15] (fun i wr => ∃ k : Nat, k ≤ xs.length ∧ i = .int .i64 k ∧ Hid (Below w.heap.size w wr) ∧ Hid (∀ j, j < k → goodP xs j)) (fun i _ => xs.length - (intOf i).toNat)
      case atStart => exact ⟨0, Nat.zero_le _, rfl, Lib.hid (Below.refl _ _), Lib.hid fun j hj => by omega⟩
      case round =>
        obtain ⟨k, hk, rfl, hb, hgd⟩ := hrel
        by_cases hlt : k < xs.length
        · obtain ⟨ad, rfl, hbl, hrow⟩ := (H.out.below hb.out) k xs[k] (List.getElem?_eq_getElem hlt)
          have hrk := List.getElem?_eq_getElem hlt
          generalize xs[k] = r at hrow hrk
          obtain ⟨c0, c1, hK, g0, g1⟩ := row2 rfl hrow
          obtain ⟨x, y, e, hx, hy⟩ := pt_cells hK
          cases e
          have hlt' : (k : Int) < (xs.length : Int) := by omega
          have hfp : finP r = (finB (can .f32 x) && finB (can .f32 y)) := by unfold finP; rw [hx.out, hy.out]
          have hgk := goodP_at hrk
          rw [hfp] at hgk
          have hbx := heap_alloc_new wr (.cells #[.float .f32 x, .float .f32 y] 26)
          have hsx : Hid (Stays wr (wr.alloc (.cells #[.float .f32 x, .float .f32 y] 26))) := Lib.hid (by (repeat (first | exact Stays.refl _ | (with_reducible refine Stays.drewN ?_ _) | (with_reducible refine Stays.alloc ?_ _) | (with_reducible refine Stays.drew ?_) | (refine Stays.trans ?_ ‹Stays _ _›))))
          have kA := c_areFinite2 wr.heap.size x y (wr.alloc (.cells #[.float .f32 x, .float .f32 y] 26)) fun w1 h => ⟨row_of h hbx 0, row_of h hbx 1⟩
          have nx : Hid ((finB (can .f32 x) && finB (can .f32 y)) = true → Hid (∀ j, j < k + 1 → goodP xs j)) := Lib.hid fun h => Lib.hid (goodP_next hgd.out (hgk.2 h))
          have bd : Hid ((finB (can .f32 x) && finB (can .f32 y)) = false → wayB xs = false) := Lib.hid fun h => wayB_bad (k := k) fun g => by have := hgk.1 g; rw [h] at this; cases this
          generalize (finB (can .f32 x) && finB (can .f32 y)) = bb at kA nx bd
          replace kA := Lib.hid kA
          clear hfp hK hrow hx hy hrk hgk hbx
          cases bb with
          | false =>
            replace bd := Lib.hid (bd.out rfl)
            go_wp2_with (go_at_call 62; refine kA.out.mono ?_; rintro e w1 ⟨rfl, hw1⟩)
            go_ret
            exact ⟨ret_b (by rw [bd.out]), hb.out.trans ((hsx.out.trans hw1).mono hb.out.size)⟩
          | true =>
            replace nx := nx.out rfl
            go_wp2_with (go_at_call 62; refine kA.out.mono ?_; rintro e w1 ⟨rfl, hw1⟩; replace hw1 := Lib.hid (hb.out.trans ((hsx.out.trans hw1).mono hb.out.size)))
            go_roundw
            case rel => exact ⟨k + 1, by omega, by go_num, hw1, nx⟩
            case measure => simp [intOf]; omega
        · have fin := Lib.hid (wayB_end (by omega) hgd.out)
          go_wp2
          go_ret
          exact ⟨ret_b (by rw [fin.out, decide_eq_true (by omega)]), hb.out⟩
    · have h600' : ¬ ((xs.length : Nat) : Int) ≤ 600 := by omega
      have bd := Lib.hid (wayB_len (xs := xs) (by omega))
      go_enter Try.func74, Try.ntmps74
      go_wp2
      go_ret
      exact ⟨ret_b (by rw [bd.out]), Below.refl _ _⟩
end Go.Proofs.Ytejljfejajckoaa
