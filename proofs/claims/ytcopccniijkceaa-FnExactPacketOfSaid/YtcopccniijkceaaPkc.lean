/- Packets: both sides. No condition. -/
import Derived.Test.YtcopccniijkceaaPke
namespace Go.Proofs.Ytcopccniijkceaa
open Go Go.RowKit
set_option linter.unusedVariables false
set_option linter.unusedSimpArgs false


theorem own_formN {w : World} {B n : Nat} {v : Value} {xs : List Value} (h : w.ownsRow B 5 1 v n xs) : ∃ A n' cap, v = .slice A n' cap := by
  obtain ⟨A, cap, e⟩ := own_formB h
  exact ⟨A, n, cap, e⟩
def BDone (w : World) (code : Int) (l : List Int) (e : Ending) (w' : World) : Prop := ∃ v, e = .returned (.tuple #[v, .int .i64 code]) ∧ OwnP w v l w'
noncomputable def pkC (xs : List Rd) : Int := if feedB' xs = true then 0 else 1
noncomputable def pkX (xs : List Rd) : List Int := if feedB' xs = true then pk xs else []
theorem own_lowerB {w : World} {B B' n : Nat} {v : Value} {xs : List Value} (h : w.ownsRow B 5 1 v n xs) (hB : B' ≤ B) : w.ownsRow B' 5 1 v n xs := by
  obtain ⟨h1, h2⟩ := h
  refine ⟨h1, ?_⟩
  rcases h2 with h2 | ⟨g, cap, cur, hv, hb, hg⟩
  · exact .inl h2
  · exact .inr ⟨g, cap, cur, hv, Nat.le_trans hB hb, hg⟩
theorem OwnP.lower {w w1 w' : World} {v : Value} {l : List Int} (h : OwnP w1 v l w') (hs : Stays w w1) : OwnP w v l w' := ⟨hs.trans h.st, own_lowerB h.own hs.size⟩
theorem c_feedI (A : Option Addr) (c : Nat) (rs : List Rd) (w : World) (h : Feed w w.heap.size A rs) (hn : rs.length ≤ 1048576) : Calls Try.prog 61 #[.slice A rs.length c] w fun e w' => e = .returned (.bool (feedB' rs)) ∧ Stays w w' := c_ValidFeed A c rs w h hn

set_option maxRecDepth 100000 in
set_option maxHeartbeats 4000000 in
theorem c_specPacket (g c : Nat) (xs : List Rd) (w : World) (h : Feed w w.heap.size (some ⟨g, 0, none⟩) xs) (hn : xs.length ≤ 1048576) :
    Calls Try.prog 15 #[.slice (some ⟨g, 0, none⟩) xs.length c] w (BDone w (pkC xs) (pkX xs)) := by
  have HF := Lib.hid fun W (hW : Stays w W) => (h.below (show Below w.heap.size w W from hW)).more hW.size
  have kF := c_feedS (some ⟨g, 0, none⟩) c xs w h hn
  unfold pkC pkX
  clear h
  cases hf : feedB' xs with
  | false =>
    rw [hf] at kF
    replace kF := Lib.hid kF
    simp only [Bool.false_eq_true, if_false]
    clear hf
    go_enter Try.func15, Try.ntmps15
    go_wp2_with fail
    refine kF.out.mono ?_
    rintro e w1 ⟨rfl, hb⟩
    replace hb := Lib.hid hb
    go_wp2
    go_ret2
    exact ⟨_, rfl, hb.out.trans (by (repeat (first | exact Stays.refl _ | (with_reducible refine Stays.drewN ?_ _) | (with_reducible refine Stays.alloc ?_ _) | (with_reducible refine Stays.drew ?_) | (refine Stays.trans ?_ ‹Stays _ _›)))), own_lowerB (own_fresh w1 #[] (by simp)) hb.out.size⟩
  | true =>
    rw [hf] at kF
    replace kF := Lib.hid kF
    unfold feedB' at hf
    rw [Bool.and_eq_true, decide_eq_true_eq] at hf
    have kP := Lib.hid fun W (hW : Stays w W) => c_l04Packet g c xs W (HF.out W hW) hf.2
    simp only [if_true]
    clear hf
    go_enter Try.func15, Try.ntmps15
    go_wp2_with fail
    refine kF.out.mono ?_
    rintro e w1 ⟨rfl, hb⟩
    replace hb := Lib.hid hb
    go_wp2_with fail
    refine (kP.out _ hb.out).mono ?_
    rintro e w2 ⟨v, rfl, hO⟩
    replace hO := Lib.hid (hO.lower hb.out)
    go_wp2
    go_ret2
    exact ⟨_, rfl, hO.out⟩

set_option maxRecDepth 100000 in
set_option maxHeartbeats 1000000 in
theorem c_checkOf (g n cap : Nat) (l : List Int) (w : World) (hn : n = l.length) (h26 : n ≤ 2600) (hal : AllB l) (HC : ∀ (j : Nat) (x : Int), l[j]? = some x → w.cell? ⟨g, j, none⟩ = some (.int .u8 x)) :
    Calls Try.prog 63 #[.slice (some ⟨g, 0, none⟩) n cap] w fun e w' => e = .returned (.int .u32 (sumB l % 65521)) ∧ w = w' := by
  have hL := Lib.hid hn
  replace HC := Lib.hid HC
  have hsu := Lib.hid (fun j hj => sum_in hal j hj)
  replace hal := Lib.hid hal
  obtain ⟨R, hR⟩ : ∃ R, R = sumB l % 65521 := ⟨_, rfl⟩
  rw [← hR]
  replace hR := Lib.hid hR
  clear hn
  go_enter Try.func63, Try.ntmps63
  go_wp2
  go_loop [3, 8] (fun sv jv => ∃ j : Nat, j ≤ n ∧ jv = .int .i64 (j : Nat) ∧ sv = .int .u32 (sumB (l.take j))) (fun _ jv => n - (intOf jv).toNat)
  case atStart => exact ⟨0, Nat.zero_le _, rfl, rfl⟩
  case round =>
    obtain ⟨j, hj, rfl, rfl⟩ := hrel
    have hjl : j ≤ l.length := by have := hL.out; omega
    have hs0 := hsu.out j hjl
    by_cases hjL : j < n
    · have hjL' : (j : Int) < (n : Int) := by omega
      have hjl2 : j < l.length := by have := hL.out; omega
      have hxl : l[j]? = some l[j] := List.getElem?_eq_getElem hjl2
      have hcj := HC.out j _ hxl
      have hx0 := hal.out l[j] (List.getElem_mem _)
      have hnx := Lib.hid (sum_next hxl)
      generalize l[j] = x at hcj hx0 hnx
      generalize sumB (l.take j) = sj at hs0 hnx ⊢
      have ex : IntKind.u32.wrap x = x := by show x % 4294967296 = x; omega
      have es : IntKind.u32.wrap (sj + x) = sj + x := by show (sj + x) % 4294967296 = _; omega
      clear hxl
      go_wp2
      go_round
      case rel => exact ⟨j + 1, by omega, by go_num, by rw [hnx.out]⟩
      case measure => simp [intOf]; omega
    · have e : j = n := by omega
      subst e
      have hsl : sumB (l.take j) = sumB l := by rw [hL.out, List.take_length]
      rw [hsl] at hs0 ⊢
      clear hsl
      generalize sumB l = s at hs0 hR ⊢
      go_wp2
      go_ret
      exact ⟨by rw [hR.out]; rfl, rfl⟩

set_option maxRecDepth 100000 in
set_option maxHeartbeats 4000000 in
theorem c_implPacket (g c : Nat) (xs : List Rd) (w : World) (h : Feed w w.heap.size (some ⟨g, 0, none⟩) xs) (hn : xs.length ≤ 1048576) :
    Calls Try.prog 17 #[.slice (some ⟨g, 0, none⟩) xs.length c] w (BDone w (pkC xs) (pkX xs)) := by
  have HF := Lib.hid fun W (hW : Stays w W) => (h.below (show Below w.heap.size w W from hW)).more hW.size
  have kF := c_feedI (some ⟨g, 0, none⟩) c xs w h hn
  unfold pkC pkX
  clear h
  cases hf : feedB' xs with
  | false =>
    rw [hf] at kF
    replace kF := Lib.hid kF
    simp only [Bool.false_eq_true, if_false]
    clear hf
    go_enter Try.func17, Try.ntmps17
    go_wp2_with fail
    refine kF.out.mono ?_
    rintro e w1 ⟨rfl, hb⟩
    replace hb := Lib.hid hb
    go_wp2
    go_ret2
    exact ⟨_, rfl, hb.out, ⟨rfl, .inl ⟨rfl, rfl⟩⟩⟩
  | true =>
    rw [hf] at kF
    replace kF := Lib.hid kF
    unfold feedB' at hf
    rw [Bool.and_eq_true, decide_eq_true_eq] at hf
    have hn256 := hf.2
    simp only [if_true]
    clear hf
    obtain ⟨R, hR⟩ : ∃ R, R = pk xs := ⟨_, rfl⟩
    rw [← hR]
    replace hR := Lib.hid hR
    have hu32 : IntKind.u32.wrap ((xs.length : Nat) : Int) = (xs.length : Nat) := by show ((xs.length : Nat) : Int) % 4294967296 = _; omega
    go_enter Try.func17, Try.ntmps17
    go_wp2_with fail
    refine kF.out.mono ?_
    rintro e w1 ⟨rfl, hb⟩
    have hcv := run_own_bytes w1 #[.int .u8 82, .int .u8 68] 2 rfl
    have hst0 := Lib.hid (show Stays w ((w1.alloc (.cells #[.int .u8 82, .int .u8 68] 5)).freeze ⟨w1.heap.size, 2, none⟩ 1) from Lib.below_freeze (show Below w.heap.size w (w1.alloc (.cells #[.int .u8 82, .int .u8 68] 5)) from hb.trans (by (repeat (first | exact Stays.refl _ | (with_reducible refine Stays.drewN ?_ _) | (with_reducible refine Stays.alloc ?_ _) | (with_reducible refine Stays.drew ?_) | (refine Stays.trans ?_ ‹Stays _ _›))))) hb.size 1)
    have d0 : ((w1.alloc (.cells #[.int .u8 82, .int .u8 68] 5)).freeze ⟨w1.heap.size, 2, none⟩ 1).cell? ⟨w1.heap.size, 0, none⟩ = some (.int .u8 82) := by rw [cell_freeze]; exact cell_of_row _ _ _ _ _ _ (heap_alloc_new w1 _)
    have d1 : ((w1.alloc (.cells #[.int .u8 82, .int .u8 68] 5)).freeze ⟨w1.heap.size, 2, none⟩ 1).cell? ⟨w1.heap.size, 1, none⟩ = some (.int .u8 68) := by rw [cell_freeze]; exact cell_of_row _ _ _ _ _ _ (heap_alloc_new w1 _)
    have d2 : w1.heap.size < ((w1.alloc (.cells #[.int .u8 82, .int .u8 68] 5)).freeze ⟨w1.heap.size, 2, none⟩ 1).heap.size := by simp [World.freeze]
    replace d0 := Lib.hid d0
    replace d1 := Lib.hid d1
    replace d2 := Lib.hid d2
    clear hb
    go_wp2_with fail
    refine (c_with2G w.heap.size w1.heap.size (xs.length : Nat) _ d0.out d1.out hst0.out.size d2.out).mono ?_
    rintro e w2 ⟨v2, rfl, hb, ho⟩
    have hO0 := Lib.hid (show OwnP w v2 (pre xs 0) w2 from ⟨(show Below w.heap.size w _ from hst0.out).trans hb, ho⟩)
    obtain ⟨ao2, n2, cv2, rfl⟩ := own_formN ho
    clear hb ho hst0 hu32 hcv d0 d1 d2
    go_wp2_with fail
    go_loopw [4, 20] (fun v iv wr => ∃ (i : Nat) (ao : Option Addr) (nn cv : Nat), i ≤ xs.length ∧ iv = .int .i64 (i : Nat) ∧ v = .slice ao nn cv ∧ Hid (OwnP w v (pre xs i) wr)) (fun _ iv _ => xs.length - (intOf iv).toNat)
    case atStart => exact ⟨0, _, _, _, Nat.zero_le _, rfl, rfl, hO0⟩
    case round =>
      clear hO0
      obtain ⟨i, ao, nn, cv, hi, rfl, rfl, hO⟩ := hrel
      have hlp : (pre xs i).length ≤ 2600 := by have := pre_len xs i hi; omega
      by_cases hlt : i < xs.length
      · have hlt' : (i : Int) < (xs.length : Int) := by omega
        have hgi : xs[i]? = some xs[i] := List.getElem?_eq_getElem hlt
        obtain ⟨_, b0, b1, b2, b3⟩ := feed_at (HF.out _ hO.out.st) hgi
        have hpn := Lib.hid (pre_next hgi)
        generalize xs[i] = r at hgi b0 b1 b2 b3 hpn
        clear hgi
        have hO1 := Lib.hid (hO.out.on (show Stays wr (wr.alloc (.cells #[.int .i64 r.t, .int .i16 r.a, .int .i16 r.b, .int .i16 r.c] 119)) from by (repeat (first | exact Stays.refl _ | (with_reducible refine Stays.drewN ?_ _) | (with_reducible refine Stays.alloc ?_ _) | (with_reducible refine Stays.drew ?_) | (refine Stays.trans ?_ ‹Stays _ _›)))))
        have hu := Lib.hid (heap_alloc_new wr (.cells #[.int .i64 r.t, .int .i16 r.a, .int .i16 r.b, .int .i16 r.c] 119))
        have hO0' := Lib.hid hO.out.own
        clear hO
        go_wp2_with fail
        refine (c_with4 w.heap.size _ (pre xs i) (IntKind.u32.wrap r.t) _ hO1.out.own hO1.out.st.size (by omega)).mono ?_
        rintro e w3 ⟨v3, rfl, hb, ho, hfr⟩
        have hbx := (hfr wr.heap.size (by simp) (fun e => by have := (hO0'.out.lt _ e).2; omega)).trans hu.out
        have hO3 := Lib.hid (show OwnP w v3 (preK xs i r 0) w3 from ⟨(show Below w.heap.size w _ from hO1.out.st).trans hb, by
          have e : preK xs i r 0 = pre xs i ++ le4 (IntKind.u32.wrap r.t) := by
            unfold preK
            rw [show le4 (IntKind.u32.wrap r.t) = le4 r.t from le4_32 r.t]
            show _ ++ [] = _
            rw [List.append_nil]
          rw [e]
          exact ho⟩)
        obtain ⟨ao3, n3, cv3, rfl⟩ := own_formN ho
        have u1 := cell_of_row _ _ 1 _ _ _ hbx
        have u2 := cell_of_row _ _ 2 _ _ _ hbx
        have u3 := cell_of_row _ _ 3 _ _ _ hbx
        clear hb ho hfr hbx hu hO1 b0 b1 b2 b3
        go_wp2_with fail
        clear u1 u2 u3
        go_loopw [4, 31] (fun v kv wr => ∃ (k : Nat) (ao : Option Addr) (nn cv : Nat), k ≤ 3 ∧ kv = .int .i64 (k : Nat) ∧ v = .slice ao nn cv ∧ Hid (OwnP w v (preK xs i r k) wr)) (fun _ kv _ => 3 - (intOf kv).toNat)
        case atStart => exact ⟨0, _, _, _, Nat.zero_le _, rfl, rfl, hO3⟩
        case round =>
          clear hO3 hO0'
          obtain ⟨k, ao, nn, cv, hk, rfl, rfl, hO⟩ := hrel
          have hlk : (preK xs i r k).length ≤ 2700 := by have := preK_len xs i r k hi; omega
          by_cases hk3 : k < 3
          · have hpk := Lib.hid (preK_next xs i r k)
            rcases (show k = 0 ∨ k = 1 ∨ k = 2 from by omega) with rfl | rfl | rfl
            · have hix : ∀ u : World, (Instr.index 117 (.agg #[.int .i16 r.a, .int .i16 r.b, .int .i16 r.c]) (.int .i64 0)).run Try.prog u = .ok (.int .i16 r.a) u := fun _ => by kernel_rfl
              go_wp2_with fail
              clear hix
              refine (c_with2 w.heap.size _ (preK xs i r 0) (IntKind.u32.wrap r.a) _ hO.out.own hO.out.st.size (by omega)).mono ?_
              rintro e w5 ⟨v5, rfl, hb, ho, _⟩
              have hO5 := Lib.hid (show OwnP w v5 (preK xs i r (0 + 1)) w5 from ⟨(show Below w.heap.size w _ from hO.out.st).trans hb, by rw [hpk.out]; rw [show le2 (IntKind.u32.wrap r.a) = le2 (vR r 0 % 65536) from le2_32 r.a] at ho; exact ho⟩)
              obtain ⟨ao5, n5, cv5, rfl⟩ := own_formN ho
              clear hb ho hO
              go_wp2_with fail
              go_round
              case rel => exact ⟨0 + 1, _, _, _, by omega, by go_num, rfl, hO5⟩
              case measure => simp [intOf]
            · have hix : ∀ u : World, (Instr.index 117 (.agg #[.int .i16 r.a, .int .i16 r.b, .int .i16 r.c]) (.int .i64 1)).run Try.prog u = .ok (.int .i16 r.b) u := fun _ => by kernel_rfl
              go_wp2_with fail
              clear hix
              refine (c_with2 w.heap.size _ (preK xs i r 1) (IntKind.u32.wrap r.b) _ hO.out.own hO.out.st.size (by omega)).mono ?_
              rintro e w5 ⟨v5, rfl, hb, ho, _⟩
              have hO5 := Lib.hid (show OwnP w v5 (preK xs i r (1 + 1)) w5 from ⟨(show Below w.heap.size w _ from hO.out.st).trans hb, by rw [hpk.out]; rw [show le2 (IntKind.u32.wrap r.b) = le2 (vR r 1 % 65536) from le2_32 r.b] at ho; exact ho⟩)
              obtain ⟨ao5, n5, cv5, rfl⟩ := own_formN ho
              clear hb ho hO
              go_wp2_with fail
              go_round
              case rel => exact ⟨1 + 1, _, _, _, by omega, by go_num, rfl, hO5⟩
              case measure => simp [intOf]
            · have hix : ∀ u : World, (Instr.index 117 (.agg #[.int .i16 r.a, .int .i16 r.b, .int .i16 r.c]) (.int .i64 2)).run Try.prog u = .ok (.int .i16 r.c) u := fun _ => by kernel_rfl
              go_wp2_with fail
              clear hix
              refine (c_with2 w.heap.size _ (preK xs i r 2) (IntKind.u32.wrap r.c) _ hO.out.own hO.out.st.size (by omega)).mono ?_
              rintro e w5 ⟨v5, rfl, hb, ho, _⟩
              have hO5 := Lib.hid (show OwnP w v5 (preK xs i r (2 + 1)) w5 from ⟨(show Below w.heap.size w _ from hO.out.st).trans hb, by rw [hpk.out]; rw [show le2 (IntKind.u32.wrap r.c) = le2 (vR r 2 % 65536) from le2_32 r.c] at ho; exact ho⟩)
              obtain ⟨ao5, n5, cv5, rfl⟩ := own_formN ho
              clear hb ho hO
              go_wp2_with fail
              go_round
              case rel => exact ⟨2 + 1, _, _, _, by omega, by go_num, rfl, hO5⟩
              case measure => simp [intOf]
          · have e : k = 3 := by omega
            subst e
            have hO4 := Lib.hid (show OwnP w (.slice ao nn cv) (pre xs (i + 1)) wr from by rw [hpn.out]; exact hO.out)
            clear hO
            go_wp2_with fail
            go_round
            case rel => exact ⟨i + 1, _, _, _, by omega, by go_num, rfl, hO4⟩
            case measure => simp [intOf]; omega
      · have e : i = xs.length := by omega
        subst e
        have hpk := Lib.hid (show R = pre xs xs.length ++ le2 (sumB (pre xs xs.length) % 65521) from hR.out)
        have hal := Lib.hid (pre_all xs xs.length)
        have h4 : 0 < (pre xs xs.length).length := by have := pre_len xs xs.length (Nat.le_refl _); omega
        clear hR
        generalize pre xs xs.length = l at hO hal hlp h4 hpk
        obtain ⟨g3, cap3, e3, _, _, hcell⟩ := own_bytes hO.out.own h4
        cases e3
        have kC := Lib.hid fun W (hW : W = wr) => c_checkOf g3 l.length cv l W rfl hlp hal.out (fun j x hx => by rw [hW]; exact hcell j (.int .u8 x) (by unfold bV; rw [List.getElem?_map, hx]; rfl))
        clear hcell
        go_wp2_with fail
        refine (kC.out _ rfl).mono ?_
        rintro e w' ⟨rfl, rfl⟩
        go_wp2_with fail
        refine (c_with2 w.heap.size _ l (sumB l % 65521) _ hO.out.own hO.out.st.size (by omega)).mono ?_
        rintro e w9 ⟨v9, rfl, hb, ho, _⟩
        have hO9 := Lib.hid (show OwnP w v9 R w9 from by rw [hpk.out]; exact ⟨(show Below w.heap.size w _ from hO.out.st).trans hb, ho⟩)
        clear hb ho
        go_wp2
        go_ret2
        exact ⟨_, rfl, hO9.out⟩
end Go.Proofs.Ytcopccniijkceaa
