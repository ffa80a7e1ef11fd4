/- Feeds without some of their readings. No condition. -/
import Derived.Test.YtpfihfdbkoclnabLe
import Derived.OwnWalk
import Derived.Deep.AppendLies
namespace Go.Proofs.Ytpfihfdbkoclnab
open Go Go.RowKit
set_option linter.unusedVariables false

/-- Whether a reading stays. -/
def stays (mk : Int) (k : Nat) : Bool := bits .and .u16 (mk / 2 ^ (k % 16)) 1 == 0

def keptTo (mk : Int) (rs : List Rd) : Nat → List Rd
  | 0 => []
  | k + 1 => if stays mk k then keptTo mk rs k ++ (rs[k]?).toList else keptTo mk rs k

def cellsOf (rs : List Rd) : List Value := rs.flatMap fun r => r.cells.toList

theorem keptTo_len (mk : Int) (rs : List Rd) : ∀ k, (keptTo mk rs k).length ≤ k
  | 0 => Nat.le_refl _
  | k + 1 => by
    unfold keptTo
    have := keptTo_len mk rs k
    split
    · rw [List.length_append]
      have : (rs[k]?).toList.length ≤ 1 := by cases rs[k]? <;> simp
      omega
    · omega

/-- The list that is being made, and what there was. -/
structure Grows (w wr : World) (v : Value) (xs : List Rd) : Prop where
  own : wr.ownsRow w.heap.size 34 4 v xs.length (cellsOf xs)
  below : Below w.heap.size w wr

def DoneAs (w : World) (code : Int) (xs : List Rd) (e : Ending) (w' : World) : Prop := ∃ v, e = .returned (.tuple #[v, .int .i64 code]) ∧ Grows w w' v xs

theorem cells_one (r : Rd) : ∀ u ∈ r.cells.toList, u.oneCell' = true := by
  intro v hv
  simp only [Rd.cells, List.mem_cons, List.not_mem_nil, or_false] at hv
  rcases hv with rfl | rfl | rfl | rfl <;> rfl

theorem cellsOf_snoc (ks : List Rd) (r : Rd) : cellsOf (ks ++ [r]) = cellsOf ks ++ r.cells.toList := by simp [cellsOf]

theorem kept_true {mk : Int} {rs : List Rd} {k : Nat} {r : Rd} (h : stays mk k = true) (hr : rs[k]? = some r) : keptTo mk rs (k + 1) = keptTo mk rs k ++ [r] := by
  show (if stays mk k then keptTo mk rs k ++ (rs[k]?).toList else keptTo mk rs k) = _
  rw [if_pos h, hr]; rfl
theorem kept_false {mk : Int} {rs : List Rd} {k : Nat} (h : stays mk k = false) : keptTo mk rs (k + 1) = keptTo mk rs k := by
  show (if stays mk k then keptTo mk rs k ++ (rs[k]?).toList else keptTo mk rs k) = _
  rw [if_neg (by rw [h]; exact Bool.false_ne_true)]

theorem Grows.form {w wr : World} {v : Value} {xs : List Rd} (h : Grows w wr v xs) : ∃ ao cv, v = .slice ao xs.length cv := by
  rcases h.own.2 with ⟨rfl, h0⟩ | ⟨g, cap, cur, rfl, _⟩
  · exact ⟨none, 0, by rw [h0]⟩
  · exact ⟨_, _, rfl⟩

theorem Grows.empty {w wr : World} (hb : Below w.heap.size w wr) : Grows w (wr.alloc (.cells #[] 34)) (.slice (some ⟨wr.heap.size, 0, none⟩) 0 0) [] :=
  ⟨World.ownsRow_made wr #[] 0 hb.size (Nat.zero_le _) rfl, hb.alloc hb.size _⟩

theorem Grows.drewN {w wr : World} {v : Value} {xs : List Rd} (h : Grows w wr v xs) (m : Nat) : Grows w (wr.drewN m) v xs := ⟨h.own, h.below.trans ((below_drewN wr m).mono h.below.size)⟩

theorem Grows.more {w wr w1 : World} {v v' : Value} {ks : List Rd} {r : Rd} {o : Obj} (h : Grows w wr v ks) (h1 : w1.ownsRow w.heap.size 34 4 v' (ks.length + 1) (cellsOf ks ++ r.cells.toList)) (hg : (wr.alloc o).grownBy w1 v.ownBlock) : Grows w w1 v' (ks ++ [r]) :=
  ⟨by rw [cellsOf_snoc, List.length_append]; exact h1, (h.below.alloc h.below.size o).grown hg (Nat.le_trans h.below.size (by simp)) (fun q hq => (h.own.lt q hq).1)⟩

set_option maxRecDepth 100000 in
set_option maxHeartbeats 400000 in
theorem c_specDrop (A : Option Addr) (c : Nat) (mk : Int) (rs : List Rd) (w : World) (h : Feed w w.heap.size A rs) (hn : rs.length ≤ 1048576) (hm : 0 ≤ mk ∧ mk ≤ 65535) :
    Calls Try.prog 31 #[.slice A rs.length c, .int .u16 mk] w (DoneAs w (if feedOK (rs.map (·.t)) && decide (rs.length ≤ 256) then 0 else 1) (if feedOK (rs.map (·.t)) && decide (rs.length ≤ 256) then keptTo mk rs rs.length else [])) := by
  have H := Lib.hid h
  have hok := c_l04Feed A c (rs.map (·.t)) w h.times (by simpa using hn)
  rw [List.length_map] at hok
  generalize (feedOK (rs.map (·.t)) && decide (rs.length ≤ 256)) = b at hok ⊢
  have hok := Lib.hid hok
  obtain ⟨i0, hi0, hz0, hz1, hz2⟩ := info_parts info50
  clear h
  cases b with
  | false =>
    go_enter Try.func31, Try.ntmps31
    go_wp2_with fail
    refine hok.out.mono ?_
    rintro e w' ⟨rfl, m, rfl⟩
    go_wp2
    go_ret2
    exact ⟨_, rfl, (Grows.empty (Below.refl _ w)).drewN m⟩
  | true =>
    go_enter Try.func31, Try.ntmps31
    go_wp2_with fail
    refine hok.out.mono ?_
    rintro e w' ⟨rfl, m, rfl⟩
    go_wp2
    go_loopw [6, 7] (fun v i wr => ∃ (k : Nat) (ao : Option Addr) (cv : Nat), k ≤ rs.length ∧ i = .int .i64 k ∧ v = .slice ao (keptTo mk rs k).length cv ∧ Hid (Grows w wr v (keptTo mk rs k))) (fun _ i _ => rs.length - (intOf i).toNat)
    case atStart => exact ⟨0, _, _, Nat.zero_le _, rfl, rfl, Lib.hid (Grows.empty (below_drewN w m))⟩
    case round =>
      obtain ⟨k, ao, cv, hk, rfl, rfl, hg⟩ := hrel
      by_cases hlt : k < rs.length
      · obtain ⟨ad, rfl, hbl, hc1, hc2, hc3, hc4⟩ := (H.out.below hg.out.below) k rs[k] (List.getElem?_eq_getElem hlt)
        have hrk : Hid (rs[k]? = some rs[k]) := Lib.hid (List.getElem?_eq_getElem hlt)
        generalize rs[k] = r at hc1 hc2 hc3 hc4 hrk
        have hlt' : (k : Int) < (rs.length : Int) := by omega
        have hlen := keptTo_len mk rs k
        have hsize := hg.out.below.size
        have hown := Lib.hid hg.out.own
        generalize hks : keptTo mk rs k = ks at hown hlen hg ⊢
        have hks := Lib.hid hks
        cases hbit : stays mk k with
        | true =>
          have hbit' : (bits .and .u16 (mk / 2 ^ (k % 16)) 1 == 0) = true := hbit
          have hbit := Lib.hid hbit
          go_wp2_with (first
            | (at_builtin; go_loud (refine wpList_append_own _ rfl _ _ 28 rfl w.heap.size 34 i0 (.agg #[.int .i64 0, .int .i16 0, .int .i16 0, .int .i16 0]) 4 16 Try.underlying28 hi0 hz0 hz1 hz2 rfl (by decide) _ _ _ rfl (hown.out.alloc _) ⟨wr.heap.size, 0, none⟩ 1 1 [.int .i64 r.t, .int .i16 r.a, .int .i16 r.b, .int .i16 r.c] rfl rfl (World.news_of_block (heap_alloc_new wr _)) (cells_one r) (by unfold maxLen; omega) (by omega) (by simp; omega) ?_); intro v' w1 hown1 hgrow _))
          have hg2 := Lib.hid (hg.out.more (r := r) hown1 hgrow)
          go_round
          case rel =>
            obtain ⟨ao', cv', hv⟩ := hg2.out.form
            have e := kept_true hbit.out hrk.out
            rw [hks.out] at e
            exact ⟨k + 1, ao', cv', by omega, by go_num, by rw [e]; exact hv, by rw [e]; exact hg2⟩
          case measure => simp [intOf]; omega
        | false =>
          have hbit' : (bits .and .u16 (mk / 2 ^ (k % 16)) 1 == 0) = false := hbit
          have hbit := Lib.hid hbit
          go_wp2_with fail
          go_round
          case rel =>
            have e := kept_false (rs := rs) hbit.out
            rw [hks.out] at e
            exact ⟨k + 1, ao, cv, by omega, by go_num, by rw [e], by rw [e]; exact hg⟩
          case measure => simp [intOf]; omega
      · have e : k = rs.length := by omega
        subst e
        go_wp2
        go_ret2
        exact ⟨_, rfl, hg.out⟩

set_option maxRecDepth 100000 in
set_option maxHeartbeats 400000 in
theorem c_implDrop (A : Option Addr) (c : Nat) (mk : Int) (rs : List Rd) (w : World) (h : Feed w w.heap.size A rs) (hn : rs.length ≤ 1048576) (hm : 0 ≤ mk ∧ mk ≤ 65535) :
    Calls Try.prog 32 #[.slice A rs.length c, .int .u16 mk] w (DoneAs w (if feedOK (rs.map (·.t)) && decide (rs.length ≤ 256) then 0 else 1) (if feedOK (rs.map (·.t)) && decide (rs.length ≤ 256) then keptTo mk rs rs.length else [])) := by
  have H := Lib.hid h
  have hok := c_ValidFeed A c rs w h hn
  generalize (feedOK (rs.map (·.t)) && decide (rs.length ≤ 256)) = b at hok ⊢
  have hok := Lib.hid hok
  obtain ⟨i0, hi0, hz0, hz1, hz2⟩ := info_parts info50
  clear h
  cases b with
  | false =>
    go_enter Try.func32, Try.ntmps32
    go_wp2_with fail
    refine hok.out.mono ?_
    rintro e w' ⟨rfl, hb0⟩
    have hb0 := Lib.hid hb0
    go_wp2
    go_ret2
    exact ⟨_, rfl, World.ownsRow_nil _ _ _ _, hb0.out⟩
  | true =>
    go_enter Try.func32, Try.ntmps32
    go_wp2_with fail
    refine hok.out.mono ?_
    rintro e w' ⟨rfl, hb0⟩
    have hb0 := Lib.hid hb0
    go_wp2
    go_loopw [6, 14] (fun v i wr => ∃ (k : Nat) (ao : Option Addr) (cv : Nat), k ≤ rs.length ∧ i = .int .i64 k ∧ v = .slice ao (keptTo mk rs k).length cv ∧ Hid (Grows w wr v (keptTo mk rs k))) (fun _ i _ => rs.length - (intOf i).toNat)
    case atStart => exact ⟨0, _, _, Nat.zero_le _, rfl, rfl, Lib.hid ⟨World.ownsRow_nil _ _ _ _, hb0.out⟩⟩
    case round =>
      obtain ⟨k, ao, cv, hk, rfl, rfl, hg⟩ := hrel
      by_cases hlt : k < rs.length
      · obtain ⟨ad, rfl, hbl, hc1, hc2, hc3, hc4⟩ := (H.out.below hg.out.below) k rs[k] (List.getElem?_eq_getElem hlt)
        have hrk : Hid (rs[k]? = some rs[k]) := Lib.hid (List.getElem?_eq_getElem hlt)
        generalize rs[k] = r at hc1 hc2 hc3 hc4 hrk
        have hlt' : (k : Int) < (rs.length : Int) := by omega
        have hlen := keptTo_len mk rs k
        have hsize := hg.out.below.size
        have hown := Lib.hid hg.out.own
        generalize hks : keptTo mk rs k = ks at hown hlen hg ⊢
        have hks := Lib.hid hks
        cases hbit : stays mk k with
        | true =>
          have hbit' : (bits .and .u16 (mk / 2 ^ (k % 16)) 1 == 0) = true := hbit
          have hbit := Lib.hid hbit
          go_wp2_with (first
            | (at_builtin; go_loud (refine wpList_append_own _ rfl _ _ 28 rfl w.heap.size 34 i0 (.agg #[.int .i64 0, .int .i16 0, .int .i16 0, .int .i16 0]) 4 16 Try.underlying28 hi0 hz0 hz1 hz2 rfl (by decide) _ _ _ rfl ((hown.out.alloc _).alloc _) ⟨wr.heap.size + 1, 0, none⟩ 1 1 [.int .i64 r.t, .int .i16 r.a, .int .i16 r.b, .int .i16 r.c] rfl rfl ?c1 (cells_one r) (by unfold maxLen; omega) (by omega) (by simp; omega) ?_); rotate_left; intro v' w1 hown1 hgrow _))
          case c1 =>
            intro j u hu
            have hs : (wr.alloc (.cells r.cells 34)).heap.size = wr.heap.size + 1 := by simp
            have := World.news_of_block (heap_alloc_new (wr.alloc (.cells r.cells 34)) (.cells r.cells 34)) j u hu
            rw [hs] at this
            exact this
          have hg1 : Grows w (wr.alloc (.cells r.cells 34)) (.slice ao ks.length cv) ks := ⟨hg.out.own.alloc _, hg.out.below.alloc hg.out.below.size _⟩
          have hg2 := Lib.hid (hg1.more (r := r) hown1 hgrow)
          clear hg1
          go_round
          case rel =>
            obtain ⟨ao', cv', hv⟩ := hg2.out.form
            have e := kept_true hbit.out hrk.out
            rw [hks.out] at e
            exact ⟨k + 1, ao', cv', by omega, by go_num, by rw [e]; exact hv, by rw [e]; exact hg2⟩
          case measure => simp [intOf]; omega
        | false =>
          have hbit' : (bits .and .u16 (mk / 2 ^ (k % 16)) 1 == 0) = false := hbit
          have hbit := Lib.hid hbit
          go_wp2_with fail
          go_round
          case rel =>
            have e := kept_false (rs := rs) hbit.out
            rw [hks.out] at e
            exact ⟨k + 1, ao, cv, by omega, by go_num, by rw [e], by rw [e]; exact Lib.hid ⟨hown.out.alloc _, hg.out.below.alloc hg.out.below.size _⟩⟩
          case measure => simp [intOf]; omega
      · have e : k = rs.length := by omega
        subst e
        go_wp2
        go_ret2
        exact ⟨_, rfl, hg.out⟩
end Go.Proofs.Ytpfihfdbkoclnab
