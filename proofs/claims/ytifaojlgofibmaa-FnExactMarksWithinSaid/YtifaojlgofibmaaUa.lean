/- Lists of marks that grow; marks that are kept. No condition. -/
import Derived.Test.YtifaojlgofibmaaNc
import Derived.OwnWalk
import Derived.Deep.AppendLies
namespace Go.Proofs.Ytifaojlgofibmaa
open Go Go.RowKit
set_option linter.unusedVariables false
set_option linter.unusedSimpArgs false

def kept (keep : Mk → Bool) (xs : List Mk) (k : Nat) : List Mk := (xs.take k).filter keep
theorem kept_len (keep : Mk → Bool) (xs : List Mk) (k : Nat) : (kept keep xs k).length ≤ k :=
  Nat.le_trans (List.length_filter_le _ _) (by rw [List.length_take]; omega)
theorem kept_next {keep : Mk → Bool} {xs : List Mk} {k : Nat} {m : Mk} (hr : xs[k]? = some m) : kept keep xs (k + 1) = if keep m then kept keep xs k ++ [m] else kept keep xs k := by
  unfold kept
  have hk := (List.getElem?_eq_some_iff.1 hr).1
  have he := (List.getElem?_eq_some_iff.1 hr).2
  rw [List.take_succ_eq_append_getElem hk, he, List.filter_append]
  cases h : keep m <;> simp [h]
theorem kept_true {keep : Mk → Bool} {xs : List Mk} {k : Nat} {m : Mk} (h : keep m = true) (hr : xs[k]? = some m) : kept keep xs (k + 1) = kept keep xs k ++ [m] := by rw [kept_next hr, if_pos h]
theorem kept_false {keep : Mk → Bool} {xs : List Mk} {k : Nat} {m : Mk} (h : keep m = false) (hr : xs[k]? = some m) : kept keep xs (k + 1) = kept keep xs k := by rw [kept_next hr, if_neg (by rw [h]; exact Bool.false_ne_true)]
theorem kept_all (keep : Mk → Bool) (xs : List Mk) : kept keep xs xs.length = xs.filter keep := by unfold kept; rw [List.take_length]
theorem kept_zero (keep : Mk → Bool) (xs : List Mk) : kept keep xs 0 = [] := rfl

def MksIn : List (List Value) → List Mk → Prop
  | [], [] => True
  | c :: cs, m :: ms => KMs mkK c m.ins ∧ MksIn cs ms
  | _, _ => False

theorem MksIn.snoc : ∀ {css : List (List Value)} {xs : List Mk} {c : List Value} {m : Mk}, MksIn css xs → KMs mkK c m.ins → MksIn (css ++ [c]) (xs ++ [m])
  | [], [], _, _, _, h => ⟨h, trivial⟩
  | c :: cs, m :: ms, _, _, ⟨h1, h2⟩, h => ⟨h1, h2.snoc h⟩
  | [], _ :: _, _, _, h, _ => h.elim
  | _ :: _, [], _, _, h, _ => h.elim

theorem MksIn.at_ : ∀ {css : List (List Value)} {xs : List Mk}, MksIn css xs → ∀ {i : Nat} {m : Mk}, xs[i]? = some m → ∃ cs, KMs mkK cs m.ins ∧ ∀ j u, cs[j]? = some u → css.flatten[i * 9 + j]? = some u
  | [], [], _, i, m, h => by simp at h
  | c :: cs, x :: xs, ⟨h1, h2⟩, 0, m, h => by
    cases h
    refine ⟨c, h1, fun j u hu => ?_⟩
    have hj := (List.getElem?_eq_some_iff.1 hu).1
    rw [List.flatten_cons, Nat.zero_mul, Nat.zero_add, List.getElem?_append_left hj]
    exact hu
  | c :: cs, x :: xs, ⟨h1, h2⟩, i + 1, m, h => by
    obtain ⟨ds, hd, hr⟩ := h2.at_ (i := i) (by simpa using h)
    refine ⟨ds, hd, fun j u hu => ?_⟩
    have hl : c.length = 9 := KMs_len h1
    rw [List.flatten_cons, List.getElem?_append_right (by rw [hl]; omega), hl, show (i + 1) * 9 + j - 9 = i * 9 + j by omega]
    exact hr j u hu
  | [], _ :: _, h, _, _, _ => h.elim
  | _ :: _, [], h, _, _, _ => h.elim

/-- A list of marks that is being made, in a block from B on. -/
structure GrowM (B : Nat) (w : World) (v : Value) (xs : List Mk) : Prop where
  own : ∃ css : List (List Value), w.ownsRow B 92 9 v xs.length css.flatten ∧ MksIn css xs

theorem GrowM.nil (B : Nat) (w : World) : GrowM B w (.slice none 0 0) [] := ⟨[], World.ownsRow_nil _ _ _ _, trivial⟩
theorem GrowM.made {B : Nat} (w : World) (hB : B ≤ w.heap.size) : GrowM B (w.alloc (.cells #[] 92)) (.slice (some ⟨w.heap.size, 0, none⟩) 0 0) [] := ⟨[], World.ownsRow_made w #[] 0 hB (Nat.zero_le _) rfl, trivial⟩
theorem GrowM.on {B : Nat} {w w' : World} {v : Value} {xs : List Mk} (h : GrowM B w v xs) (hs : ∀ g, B ≤ g → g < w.heap.size → w'.heap[g]? = w.heap[g]?) : GrowM B w' v xs := by
  obtain ⟨css, ⟨h1, h2⟩, h3⟩ := h
  refine ⟨css, ⟨h1, ?_⟩, h3⟩
  rcases h2 with h2 | ⟨g, cap, cur, hv, hb, hg, hr⟩
  · exact .inl h2
  · exact .inr ⟨g, cap, cur, hv, hb, (hs g hb (Array.getElem?_eq_some_iff.1 hg).1).trans hg, hr⟩
theorem GrowM.stays {B : Nat} {w w' : World} {v : Value} {xs : List Mk} (h : GrowM B w v xs) (hs : Stays w w') : GrowM B w' v xs := h.on fun g _ hg => Below.block hs g hg
theorem GrowM.form {B : Nat} {w : World} {v : Value} {xs : List Mk} (h : GrowM B w v xs) : ∃ ao cv, v = .slice ao xs.length cv := by
  obtain ⟨css, ⟨_, h2⟩, _⟩ := h
  rcases h2 with ⟨rfl, h0⟩ | ⟨g, cap, cur, rfl, _⟩
  · exact ⟨none, 0, by rw [h0]⟩
  · exact ⟨_, _, rfl⟩
theorem GrowM.more {B : Nat} {w : World} {v : Value} {xs : List Mk} {css : List (List Value)} {c : List Value} {m : Mk} (h : w.ownsRow B 92 9 v (xs.length + 1) (css.flatten ++ c)) (hm : MksIn css xs) (hc : KMs mkK c m.ins) : GrowM B w v (xs ++ [m]) :=
  ⟨css ++ [c], by rw [List.flatten_append, List.length_append]; simpa using h, hm.snoc hc⟩
theorem GrowM.lies {B : Nat} {w : World} {v : Value} {xs : List Mk} (h : GrowM B w v xs) : ∃ g, B ≤ g ∧ LiesR mkK 9 Mk.ins w g v xs := by
  obtain ⟨css, ⟨_, h2⟩, h3⟩ := h
  rcases h2 with ⟨rfl, h0⟩ | ⟨g, cap, cur, rfl, hb, hg, hn, hc, hs, ht⟩
  · have : xs = [] := List.eq_nil_of_length_eq_zero h0
    subst this
    exact ⟨B, Nat.le_refl _, none, 0, rfl, fun h => absurd rfl h⟩
  · refine ⟨g, hb, _, _, rfl, fun _ => ⟨rfl, (Array.getElem?_eq_some_iff.1 hg).1, fun j hj => ?_, fun i r hr => ?_⟩⟩
    · refine ⟨?_, frozen_of_row _ _ _ _ _ hg⟩
      rw [cell_of_row _ _ _ _ _ _ hg]
      have : 0 + j < cur.size := by rw [hs]; have := Nat.mul_le_mul_right 9 hn; omega
      rw [Array.getElem?_eq_getElem this]; rfl
    · obtain ⟨cs, hk, hat⟩ := h3.at_ hr
      refine ⟨cs, hk, fun j u hu => ?_⟩
      rw [cell_of_row _ _ _ _ _ _ hg]
      have h1 := hat j u hu
      have hi := (List.getElem?_eq_some_iff.1 hr).1
      have hj : j < cs.length := (List.getElem?_eq_some_iff.1 hu).1
      have hl : cs.length = 9 := KMs_len hk
      rw [← ht, List.getElem?_take_of_lt (by omega)] at h1
      simpa using h1

theorem mk_at' {w : World} {p : Addr} {m : Mk} (h : RowAt mkK w p m.ins) : ∃ ra rb rc rd, KMs mkK [.int .i32 m.x, .int .i32 m.y, .int .i32 m.z, .float .f32 ra, .float .f32 rb, .float .f32 rc, .float .f32 rd, .int .i64 m.s, .int .i64 m.l] m.ins ∧ (w.cell? p = some (.int .i32 m.x) ∧ w.cell? ⟨p.block, p.off + 1, none⟩ = some (.int .i32 m.y) ∧ w.cell? ⟨p.block, p.off + 2, none⟩ = some (.int .i32 m.z) ∧
    w.cell? ⟨p.block, p.off + 3, none⟩ = some (.float .f32 ra) ∧ w.cell? ⟨p.block, p.off + 4, none⟩ = some (.float .f32 rb) ∧ w.cell? ⟨p.block, p.off + 5, none⟩ = some (.float .f32 rc) ∧ w.cell? ⟨p.block, p.off + 6, none⟩ = some (.float .f32 rd) ∧ w.cell? ⟨p.block, p.off + 7, none⟩ = some (.int .i64 m.s) ∧ w.cell? ⟨p.block, p.off + 8, none⟩ = some (.int .i64 m.l)) := by
  obtain ⟨cs, hk, hc⟩ := h
  obtain ⟨ra, rb, rc, rd, rfl, _⟩ := mk_row hk
  exact ⟨ra, rb, rc, rd, hk, hc 0 _ rfl, hc 1 _ rfl, hc 2 _ rfl, hc 3 _ rfl, hc 4 _ rfl, hc 5 _ rfl, hc 6 _ rfl, hc 7 _ rfl, hc 8 _ rfl⟩

theorem kms_one {cs : List Value} {m : Mk} (h : KMs mkK cs m.ins) : ∀ u ∈ cs, u.oneCell' = true := KMs_one h

set_option maxRecDepth 100000 in
set_option maxHeartbeats 1000000 in
/-- The marks that fit, for any function that says which. -/
theorem c_those (fid : FuncId) (caps : Array Value) (hE : ∀ args w, (callFunc fid args).run Try.prog w = .ok (.enter fid args) w) (keep : Mk → Bool) (A : Option Addr) (c : Nat) (xs : List Mk) (w : World) (h : Mks w w.heap.size A xs) (hn : xs.length ≤ 1048576)
    (hF : ∀ W v m, Below w.heap.size w W → IsMk v m → Calls Try.prog fid (#[v] ++ caps) W fun e w' => e = .returned (.bool (keep m)) ∧ Stays W w') :
    Calls Try.prog 60 #[.slice A xs.length c,   .func (Fn.func fid) #[] caps] w fun e w' => ∃ g B c', e = .returned (.slice B (xs.filter keep).length c') ∧ Below w.heap.size w w' ∧ w.heap.size ≤ g ∧ LiesR mkK 9 Mk.ins w' g (.slice B (xs.filter keep).length c') (xs.filter keep) := by
  have H := Lib.hid h
  have HF := Lib.hid hF
  have HE := Lib.hid hE
  obtain ⟨i0, hi0, hz0, hz1, hz2⟩ := info_parts infoMk
  clear h hF hE
  go_enter Try.func60, Try.ntmps60
  go_wp2
  go_loopw [5, 10] (fun v i wr => ∃ (k : Nat) (ao : Option Addr) (cv : Nat), k ≤ xs.length ∧ i = .int .i64 k ∧ v = .slice ao (kept keep xs k).length cv ∧ Hid (GrowM w.heap.size wr v (kept keep xs k)) ∧ Hid (Below w.heap.size w wr)) (fun _ i _ => xs.length - (intOf i).toNat)
  case atStart => exact ⟨0, _, _, Nat.zero_le _, rfl, rfl, Lib.hid (GrowM.nil _ _), Lib.hid (Below.refl _ _)⟩
  case round =>
    obtain ⟨k, ao, cv, hk, rfl, rfl, hg, hb⟩ := hrel
    by_cases hlt : k < xs.length
    · obtain ⟨ad, rfl, hbl, hrow⟩ := (H.out.below hb.out) k xs[k] (List.getElem?_eq_getElem hlt)
      have hrk : Hid (xs[k]? = some xs[k]) := Lib.hid (List.getElem?_eq_getElem hlt)
      generalize xs[k] = m at hrow hrk
      have hlt' : (k : Int) < (xs.length : Int) := by omega
      have hlen := kept_len keep xs k
      obtain ⟨ra, rb, rc, rd, hkm, g0, g1, g2, g3, g4, g5, g6, g7, g8⟩ := mk_at' hrow
      have hm : Hid (IsMk (.agg #[.int .i32 m.x, .int .i32 m.y, .int .i32 m.z, .float .f32 ra, .float .f32 rb, .float .f32 rc, .float .f32 rd, .int .i64 m.s, .int .i64 m.l]) m) := Lib.hid ⟨_, rfl, hkm⟩
      replace hkm := Lib.hid hkm
      clear hrow
      go_wp2_with fail
      rw [HE.out]
      have hbw := Lib.hid (hb.out.alloc hb.out.size (.cells #[.int .i32 m.x, .int .i32 m.y, .int .i32 m.z, .float .f32 ra, .float .f32 rb, .float .f32 rc, .float .f32 rd, .int .i64 m.s, .int .i64 m.l] 92))
      have hx := heap_alloc_new wr (.cells #[.int .i32 m.x, .int .i32 m.y, .int .i32 m.z, .float .f32 ra, .float .f32 rb, .float .f32 rc, .float .f32 rd, .int .i64 m.s, .int .i64 m.l] 92)
      have hs1 : Stays wr (wr.alloc (.cells #[.int .i32 m.x, .int .i32 m.y, .int .i32 m.z, .float .f32 ra, .float .f32 rb, .float .f32 rc, .float .f32 rd, .int .i64 m.s, .int .i64 m.l] 92)) := by (repeat (first | exact Stays.refl _ | (with_reducible refine Stays.drewN ?_ _) | (with_reducible refine Stays.alloc ?_ _) | (with_reducible refine Stays.drew ?_) | (refine Stays.trans ?_ ‹Stays _ _›)))
      refine (HF.out _ _ m hbw.out hm.out).mono ?_
      rintro e w1 ⟨rfl, hw1⟩
      have hb1 := Lib.hid (hbw.out.trans (Below.mono hw1 hbw.out.size))
      have hg1 := hg.out.stays (hs1.trans hw1)
      have x0 := row_of hw1 hx 0
      have x1 := row_of hw1 hx 1
      have x2 := row_of hw1 hx 2
      have x3 := row_of hw1 hx 3
      have x4 := row_of hw1 hx 4
      have x5 := row_of hw1 hx 5
      have x6 := row_of hw1 hx 6
      have x7 := row_of hw1 hx 7
      have x8 := row_of hw1 hx 8
      obtain ⟨css, hown, hin⟩ := hg1.own
      replace hown := Lib.hid hown
      replace hin := Lib.hid hin
      clear hx hs1 hw1 hbw hg hg1 g0 g1 g2 g3 g4 g5 g6 g7 g8
      cases hkeep : keep m with
      | true =>
        have hkn := Lib.hid (kept_true hkeep hrk.out)
        have hsz := hb1.out.size
        clear hkeep
        go_wp2_with (at_builtin; go_loud (refine wpList_append_own _ rfl _ _ 53 rfl w.heap.size 92 i0 (.agg #[.int .i32 0, .int .i32 0, .int .i32 0, .float .f32 0, .float .f32 0, .float .f32 0, .float .f32 0, .int .i64 0, .int .i64 0]) 9 48 Try.underlying53 hi0 hz0 hz1 hz2 rfl (by decide) _ _ _ rfl (hown.out.alloc _) ⟨w1.heap.size, 0, none⟩ 1 1 [.int .i32 m.x, .int .i32 m.y, .int .i32 m.z, .float .f32 ra, .float .f32 rb, .float .f32 rc, .float .f32 rd, .int .i64 m.s, .int .i64 m.l] rfl rfl (World.news_of_block (heap_alloc_new w1 _)) (kms_one hkm.out) (by unfold maxLen; omega) (by omega) (by simp; omega) ?_); intro v' w2 hown1 hgrow _)
        have hg2 := Lib.hid (GrowM.more hown1 hin.out hkm.out)
        have hb2 := Lib.hid ((hb1.out.alloc hb1.out.size _).grown hgrow (Nat.le_trans hb1.out.size (by simp)) (fun q hq => (hown.out.lt q hq).1))
        clear hown1 hgrow
        go_round
        case rel =>
          obtain ⟨ao', cv', hv⟩ := hg2.out.form
          refine ⟨k + 1, ao', cv', by omega, by go_num, ?_, ?_, hb2⟩
          · rw [hkn.out]; exact hv
          · rw [hkn.out]; exact hg2
        case measure => simp [intOf]; omega
      | false =>
        have hkn := Lib.hid (kept_false hkeep hrk.out)
        clear hkeep
        go_wp2_with fail
        go_round
        case rel =>
          refine ⟨k + 1, ao, cv, by omega, by go_num, ?_, ?_, hb1⟩
          · rw [hkn.out]
          · rw [hkn.out]; exact Lib.hid ⟨css, hown.out, hin.out⟩
        case measure => simp [intOf]; omega
    · have e : k = xs.length := by omega
      subst e
      rw [kept_all] at hg ⊢
      go_wp2
      go_ret
      obtain ⟨g, hge, hl⟩ := hg.out.lies
      exact ⟨g, ao, cv, rfl, hb.out, hge, hl⟩
end Go.Proofs.Ytifaojlgofibmaa
