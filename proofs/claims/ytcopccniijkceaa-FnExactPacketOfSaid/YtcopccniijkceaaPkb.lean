/- A packet, as the document makes it. No condition. -/
import Derived.Test.YtcopccniijkceaaPka
namespace Go.Proofs.Ytcopccniijkceaa
open Go Go.RowKit
set_option linter.unusedVariables false
set_option linter.unusedSimpArgs false

theorem add_at (g j : Nat) : (⟨g, 0, none⟩ : Addr).add j = ⟨g, j, none⟩ := by unfold Addr.add; split <;> simp_all
theorem feed_at {w : World} {B g : Nat} {xs : List Rd} (h : Feed w B (some ⟨g, 0, none⟩) xs) {i : Nat} {r : Rd} (hr : xs[i]? = some r) : g < B ∧ w.cell? ⟨g, i * 4, none⟩ = some (.int .i64 r.t) ∧ w.cell? ⟨g, i * 4 + 1, none⟩ = some (.int .i16 r.a) ∧ w.cell? ⟨g, i * 4 + 2, none⟩ = some (.int .i16 r.b) ∧ w.cell? ⟨g, i * 4 + 3, none⟩ = some (.int .i16 r.c) := by
  obtain ⟨ad, e, hb, h1, h2, h3, h4⟩ := h i r hr
  cases e
  rw [add_at] at h1 h2 h3 h4
  exact ⟨hb, h1, h2, h3, h4⟩
noncomputable def feedB' (rs : List Rd) : Bool := feedOK (rs.map (·.t)) && decide (rs.length ≤ 256)
theorem c_feedS (A : Option Addr) (c : Nat) (rs : List Rd) (w : World) (h : Feed w w.heap.size A rs) (hn : rs.length ≤ 1048576) : Calls Try.prog 58 #[.slice A rs.length c] w fun e w' => e = .returned (.bool (feedB' rs)) ∧ Stays w w' := by
  have := c_l04Feed A c (rs.map (·.t)) w h.times (by simpa using hn)
  rw [List.length_map] at this
  refine this.mono ?_
  rintro e w2 ⟨rfl, m, rfl⟩
  exact ⟨rfl, below_drewN w m⟩


def vR (r : Rd) : Nat → Int
  | 0 => r.a
  | 1 => r.b
  | _ => r.c
def cntB (r : Rd) : Nat → List Int
  | 0 => []
  | k + 1 => cntB r k ++ le2 (vR r k % 65536)
def rdB (r : Rd) : List Int := le4 r.t ++ cntB r 3
def pre (xs : List Rd) (i : Nat) : List Int := [82, 68] ++ le2 (xs.length : Nat) ++ (xs.take i).flatMap rdB
def preK (xs : List Rd) (i : Nat) (r : Rd) (k : Nat) : List Int := pre xs i ++ le4 r.t ++ cntB r k
theorem pre_next {xs : List Rd} {i : Nat} {r : Rd} (h : xs[i]? = some r) : pre xs (i + 1) = preK xs i r 3 := by
  unfold preK pre
  rw [List.take_add_one, h, List.flatMap_append]
  simp [rdB, List.append_assoc]
theorem cntB_len (r : Rd) : ∀ k, (cntB r k).length = 2 * k
  | 0 => rfl
  | k + 1 => by rw [cntB, List.length_append, cntB_len r k]; show 2 * k + 2 = _; omega
theorem rdB_len (r : Rd) : (rdB r).length = 10 := by rw [rdB, List.length_append, cntB_len]; rfl
theorem flat_len : ∀ xs : List Rd, (xs.flatMap rdB).length = 10 * xs.length
  | [] => rfl
  | x :: xs => by rw [List.flatMap_cons, List.length_append, rdB_len, flat_len xs, List.length_cons]; omega
theorem pre_len (xs : List Rd) (i : Nat) (hi : i ≤ xs.length) : (pre xs i).length = 4 + 10 * i := by
  unfold pre
  rw [List.length_append, flat_len, List.length_take]
  show 4 + 10 * min i xs.length = _
  rw [Nat.min_eq_left hi]
theorem preK_len (xs : List Rd) (i : Nat) (r : Rd) (k : Nat) (hi : i ≤ xs.length) : (preK xs i r k).length = 8 + 10 * i + 2 * k := by
  unfold preK
  rw [List.length_append, List.length_append, cntB_len, pre_len xs i hi]
  show 4 + 10 * i + 4 + 2 * k = _
  omega
theorem preK_next (xs : List Rd) (i : Nat) (r : Rd) (k : Nat) : preK xs i r (k + 1) = preK xs i r k ++ le2 (vR r k % 65536) := by
  unfold preK
  rw [cntB]
  simp only [List.append_assoc]
def AllB (l : List Int) : Prop := ∀ x ∈ l, 0 ≤ x ∧ x < 256
theorem AllB.app {l m : List Int} (h : AllB l) (h' : AllB m) : AllB (l ++ m) := fun x hx => (List.mem_append.1 hx).elim (h x) (h' x)
theorem le2_all (n : Int) : AllB (le2 n) := fun x hx => by
  simp only [le2, List.mem_cons, List.not_mem_nil, or_false] at hx
  rcases hx with rfl | rfl <;> omega
theorem le4_all (n : Int) : AllB (le4 n) := fun x hx => by
  simp only [le4, List.mem_cons, List.not_mem_nil, or_false] at hx
  rcases hx with rfl | rfl | rfl | rfl <;> omega
theorem cntB_all (r : Rd) : ∀ k, AllB (cntB r k)
  | 0 => fun x hx => by cases hx
  | k + 1 => (cntB_all r k).app (le2_all _)
theorem pre_all (xs : List Rd) (i : Nat) : AllB (pre xs i) := by
  refine AllB.app (AllB.app (fun x hx => ?_) (le2_all _)) fun x hx => ?_
  · simp only [List.mem_cons, List.not_mem_nil, or_false] at hx
    rcases hx with rfl | rfl <;> omega
  · obtain ⟨r, _, hr⟩ := List.mem_flatMap.1 hx
    exact (le4_all r.t).app (cntB_all r 3) x hr
def sumB (l : List Int) : Int := l.foldl (· + ·) 0
theorem sum_next {l : List Int} {j : Nat} {x : Int} (h : l[j]? = some x) : sumB (l.take (j + 1)) = sumB (l.take j) + x := by
  unfold sumB
  rw [List.take_add_one, h, List.foldl_append]
  rfl
theorem sum_in {l : List Int} (h : AllB l) : ∀ j, j ≤ l.length → 0 ≤ sumB (l.take j) ∧ sumB (l.take j) ≤ 255 * (j : Nat)
  | 0, _ => ⟨Int.le_refl _, Int.le_refl _⟩
  | j + 1, hj => by
    have hx : l[j]? = some l[j] := List.getElem?_eq_getElem hj
    have h1 := sum_in h j (by omega)
    have h2 := h l[j] (List.getElem_mem hj)
    rw [sum_next hx]
    omega
def pk (xs : List Rd) : List Int := pre xs xs.length ++ le2 (sumB (pre xs xs.length) % 65521)
/-- Bytes in a block of the function's own. -/
structure OwnP (w : World) (v : Value) (l : List Int) (wr : World) : Prop where
  st : Stays w wr
  own : wr.ownsRow w.heap.size 5 1 v l.length (bV l)
theorem OwnP.on {w wr w' : World} {v : Value} {l : List Int} (h : OwnP w v l wr) (hb : Stays wr w') : OwnP w v l w' := ⟨h.st.trans hb, own_bstays h.own hb⟩
theorem OwnP.grow {w wr w' : World} {X : Obj} {v v' : Value} {l m : List Int} (h : OwnP w v l wr) (ho : w'.ownsRow w.heap.size 5 1 v' (l.length + m.length) (bV l ++ bV m)) (hg : (wr.alloc X).grownBy w' v.ownBlock) : OwnP w v' (l ++ m) w' :=
  ⟨Below.grown (B := w.heap.size) ((show Below w.heap.size w wr from h.st).alloc h.st.size X) hg (by have := h.st.size; simp; omega) (fun k hk => (h.own.lt k hk).1), by rw [List.length_append, bV_app]; exact ho⟩
theorem own_formB {w : World} {B n : Nat} {v : Value} {xs : List Value} (h : w.ownsRow B 5 1 v n xs) : ∃ A cap, v = .slice A n cap := by
  rcases h.2 with ⟨e, e0⟩ | ⟨g, cap, cur, e, _⟩
  · subst e0; exact ⟨none, 0, e⟩
  · exact ⟨_, _, e⟩
theorem le2_small {q : Int} (h : 0 ≤ q ∧ q < 65521) : ∀ (j : Nat) (u : Value), (bV (le2 q))[j]? = some u → (#[.int .u8 (q % 256), .int .u8 (q / 256)] : Array Value)[j]? = some u
  | 0, u, hj => hj
  | 1, u, hj => by
    have e : q / 256 % 256 = q / 256 := by omega
    rw [← e]
    exact hj
  | j + 2, u, hj => by simp [bV, le2] at hj
theorem le2_two (n : Int) : ∀ (j : Nat) (u : Value), (bV (le2 n))[j]? = some u → (#[.int .u8 (n % 256), .int .u8 (n / 256 % 256)] : Array Value)[j]? = some u
  | 0, u, h => h
  | 1, u, h => h
  | j + 2, u, h => by simp [bV, le2] at h

set_option maxRecDepth 100000 in
set_option maxHeartbeats 4000000 in
theorem c_l04Packet (g c : Nat) (xs : List Rd) (w : World) (h : Feed w w.heap.size (some ⟨g, 0, none⟩) xs) (hn : xs.length ≤ 256) :
    Calls Try.prog 59 #[.slice (some ⟨g, 0, none⟩) xs.length c] w fun e w' => ∃ v, e = .returned v ∧ OwnP w v (pk xs) w' := by
  obtain ⟨i0, hi0, hz0, hz1, hz2⟩ := info_parts infoB8
  have HF := Lib.hid fun W (hW : Stays w W) => (h.below (show Below w.heap.size w W from hW)).more hW.size
  have e0 : bV (pre xs 0) = [.int .u8 82, .int .u8 68, .int .u8 (((xs.length : Nat) : Int) % 256), .int .u8 (((xs.length : Nat) : Int) / 256)] := by
    unfold pre le2
    rw [show ((xs.length : Nat) : Int) / 256 % 256 = (xs.length : Nat) / 256 by omega]
    rfl
  have hO0 : OwnP w (.slice (some ⟨w.heap.size, 0, none⟩) 4 4) (pre xs 0) (w.alloc (.cells #[.int .u8 82, .int .u8 68, .int .u8 (((xs.length : Nat) : Int) % 256), .int .u8 (((xs.length : Nat) : Int) / 256)] 5)) := ⟨by (repeat (first | exact Stays.refl _ | (with_reducible refine Stays.drewN ?_ _) | (with_reducible refine Stays.alloc ?_ _) | (with_reducible refine Stays.drew ?_) | (refine Stays.trans ?_ ‹Stays _ _›))), by rw [e0]; exact own_fresh w #[.int .u8 82, .int .u8 68, .int .u8 (((xs.length : Nat) : Int) % 256), .int .u8 (((xs.length : Nat) : Int) / 256)] (by simp)⟩
  clear e0
  obtain ⟨R, hR⟩ : ∃ R, R = pk xs := ⟨_, rfl⟩
  rw [← hR]
  replace hR := Lib.hid hR
  replace hO0 := Lib.hid hO0
  clear h
  go_enter Try.func59, Try.ntmps59
  go_wp2_with fail
  generalize (w.alloc (.cells #[.int .u8 82, .int .u8 68, .int .u8 (((xs.length : Nat) : Int) % 256), .int .u8 (((xs.length : Nat) : Int) / 256)] 5)) = W0 at hO0 ⊢
  go_loopw [4, 5] (fun v iv wr => ∃ (i : Nat) (ao : Option Addr) (nn cv : Nat), i ≤ xs.length ∧ iv = .int .i64 (i : Nat) ∧ v = .slice ao nn cv ∧ Hid (OwnP w v (pre xs i) wr)) (fun _ iv _ => xs.length - (intOf iv).toNat)
  case atStart => exact ⟨0, _, _, _, Nat.zero_le _, rfl, rfl, hO0⟩
  case round =>
    clear hO0
    obtain ⟨i, ao, nn, cv, hi, rfl, rfl, hO⟩ := hrel
    have hlp : (pre xs i).length ≤ 2600 := by have := pre_len xs i hi; omega
    by_cases hlt : i < xs.length
    · have hlt' : (i : Int) < (xs.length : Int) := by omega
      have hgi : xs[i]? = some xs[i] := List.getElem?_eq_getElem hlt
      obtain ⟨_, b0, b1, b2, b3⟩ := feed_at (HF.out _ hO.out.st) hgi
      have hpn := Lib.hid (pre_next hgi)
      generalize xs[i] = r at hgi b0 b1 b2 b3 hpn
      have HV := Lib.hid fun W (hW : Stays w W) (k : Nat) (hk : k < 3) => show W.cell? ⟨g, i * 4 + 1 + k, none⟩ = some (.int .i16 (vR r k)) from by
        obtain ⟨_, _, d1, d2, d3⟩ := feed_at (HF.out W hW) hgi
        match k, hk with
        | 0, _ => exact d1
        | 1, _ => exact d2
        | 2, _ => exact d3
      replace hgi := Lib.hid hgi
      clear b1 b2 b3
      go_wp2_with (at_builtin; refine wpList_append_own _ rfl _ _ 36 rfl w.heap.size 5 i0 (.int .u8 0) 1 1 Try.underlying36 hi0 hz0 hz1 hz2 rfl (by decide) _ _ _ rfl (hO.out.own.alloc _) ⟨wr.heap.size, 0, none⟩ 4 4 (bV (le4 r.t)) rfl rfl (news_row (heap_alloc_new wr _) (le4_cells r.t)) (bV_one _) (by unfold maxLen; omega) (by omega) (by have := hO.out.st.size; simp; omega) ?_; intro v9 w9 hown' hgrow hiff)
      have hO1 := Lib.hid (hO.out.grow hown' hgrow)
      obtain ⟨ao1, cv1, rfl⟩ := own_formB hown'
      clear hown' hgrow hiff hO b0
      go_wp2_with fail
      go_loopw [4, 7] (fun v kv wr => ∃ (k : Nat) (ao : Option Addr) (nn cv : Nat), k ≤ 3 ∧ kv = .int .i64 (k : Nat) ∧ v = .slice ao nn cv ∧ Hid (OwnP w v (preK xs i r k) wr)) (fun _ kv _ => 3 - (intOf kv).toNat)
      case atStart => exact ⟨0, _, _, _, Nat.zero_le _, rfl, rfl, Lib.hid (by have := hO1.out; unfold preK; rw [show cntB r 0 = [] from rfl, List.append_nil]; exact this)⟩
      case round =>
        clear hO1
        obtain ⟨k, ao, nn, cv, hk, rfl, rfl, hO⟩ := hrel
        have hlk : (preK xs i r k).length ≤ 2700 := by have := preK_len xs i r k hi; omega
        by_cases hk3 : k < 3
        · have hk3' : (k : Int) < 3 := by omega
          have hc := HV.out _ hO.out.st k hk3
          have hpk := Lib.hid (preK_next xs i r k)
          generalize vR r k = cc at hc hpk
          go_wp2_with (at_builtin; refine wpList_append_own _ rfl _ _ 36 rfl w.heap.size 5 i0 (.int .u8 0) 1 1 Try.underlying36 hi0 hz0 hz1 hz2 rfl (by decide) _ _ _ rfl (hO.out.own.alloc _) ⟨wr.heap.size, 0, none⟩ 2 2 (bV (le2 (cc % 65536))) rfl rfl (news_row (heap_alloc_new wr _) (le2_two _)) (bV_one _) (by unfold maxLen; omega) (by omega) (by have := hO.out.st.size; simp; omega) ?_; intro v9 w9 hown' hgrow hiff)
          have hO2 := Lib.hid (show OwnP w v9 (preK xs i r (k + 1)) w9 from by rw [hpk.out]; exact hO.out.grow hown' hgrow)
          obtain ⟨ao2, cv2, rfl⟩ := own_formB hown'
          clear hown' hgrow hiff hO hc
          go_round
          case rel => exact ⟨k + 1, _, _, _, by omega, by go_num, rfl, hO2⟩
          case measure => simp [intOf]; omega
        · have e : k = 3 := by omega
          subst e
          have hO3 := Lib.hid (show OwnP w (.slice ao nn cv) (pre xs (i + 1)) wr from by rw [hpn.out]; exact hO.out)
          clear hO
          go_wp2_with fail
          go_round
          case rel => exact ⟨i + 1, _, _, _, by omega, by go_num, rfl, hO3⟩
          case measure => simp [intOf]; omega
    · have e : i = xs.length := by omega
      subst e
      have hal := Lib.hid (pre_all xs xs.length)
      have hpk := Lib.hid (show R = pre xs xs.length ++ le2 (sumB (pre xs xs.length) % 65521) from hR.out)
      have h2600 : (pre xs xs.length).length ≤ 2600 := hlp
      have h4 : 0 < (pre xs xs.length).length := by have := pre_len xs xs.length (Nat.le_refl _); omega
      clear hlp hR
      generalize pre xs xs.length = l at hO hal h2600 h4 hpk
      have hsu := Lib.hid (fun j hj => sum_in hal.out j hj)
      obtain ⟨L, hL⟩ : ∃ L, L = l.length := ⟨_, rfl⟩
      have ho := hO.out.own
      rw [← hL] at h2600 h4 ho
      obtain ⟨g3, cap3, e3, _, _, hcell⟩ := own_bytes ho h4
      cases e3
      have HC := Lib.hid fun (j : Nat) (x : Int) (hx : l[j]? = some x) => hcell j (.int .u8 x) (by unfold bV; rw [List.getElem?_map, hx]; rfl)
      clear hcell ho
      replace hL := Lib.hid hL
      go_wp2_with fail
      go_loop [9, 10] (fun sv jv => ∃ j : Nat, j ≤ nn ∧ jv = .int .i64 (j : Nat) ∧ sv = .int .i64 (sumB (l.take j))) (fun _ jv => nn - (intOf jv).toNat)
      case atStart => exact ⟨0, Nat.zero_le _, rfl, rfl⟩
      case round =>
        obtain ⟨j, hj, rfl, rfl⟩ := hrel
        have hjl : j ≤ l.length := by have := hL.out; omega
        have hs0 := hsu.out j hjl
        by_cases hjL : j < nn
        · have hjL' : (j : Int) < (nn : Int) := by omega
          have hjl2 : j < l.length := by have := hL.out; omega
          have hxl : l[j]? = some l[j] := List.getElem?_eq_getElem hjl2
          have hcj := HC.out j _ hxl
          have hx0 := hal.out l[j] (List.getElem_mem _)
          have hnx := Lib.hid (sum_next hxl)
          generalize l[j] = x at hcj hx0 hnx
          generalize sumB (l.take j) = sj at hs0 hnx ⊢
          have ex : IntKind.i64.wrap x = x := IntWalk.i64_in _ (by omega)
          have es : IntKind.i64.wrap (sj + x) = sj + x := IntWalk.i64_in _ (by omega)
          clear hxl
          go_wp2
          go_round
          case rel => exact ⟨j + 1, by omega, by go_num, by rw [hnx.out]⟩
          case measure => simp [intOf]; omega
        · have e : j = nn := by omega
          subst e
          have hsl : sumB (l.take j) = sumB l := by rw [hL.out, List.take_length]
          rw [hsl] at hs0 ⊢
          clear hsl
          generalize sumB l = s at hs0 hpk ⊢
          have hq : 0 ≤ s % 65521 ∧ s % 65521 < 65521 := by omega
          have hl26 : l.length ≤ 2600 := by have := hL.out; omega
          go_wp2_with (at_builtin; refine wpList_append_own _ rfl _ _ 36 rfl w.heap.size 5 i0 (.int .u8 0) 1 1 Try.underlying36 hi0 hz0 hz1 hz2 rfl (by decide) _ _ _ rfl (hO.out.own.alloc _) ⟨wr.heap.size, 0, none⟩ 2 2 (bV (le2 (s % 65521))) rfl rfl (news_row (heap_alloc_new wr _) (le2_small hq)) (bV_one _) (by unfold maxLen; omega) (by omega) (by have := hO.out.st.size; simp; omega) ?_; intro v9 w9 hown' hgrow hiff)
          have hO9 := Lib.hid (show OwnP w v9 R w9 from by rw [hpk.out]; exact hO.out.grow hown' hgrow)
          clear hown' hgrow hiff
          go_wp2
          go_ret
          exact ⟨_, rfl, hO9.out⟩
end Go.Proofs.Ytcopccniijkceaa
