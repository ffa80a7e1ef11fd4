/- Ways: how long they are, on both sides, and the law. No condition. -/
import Derived.Test.YtdahlpljgcibfabGfA
import Derived.Deep.RegionHeld
namespace Go.Proofs.Ytdahlpljgcibfab
open Go Go.RowKit
set_option linter.unusedVariables false
set_option linter.unusedSimpArgs false

noncomputable def squO (p q : List NV) : Option Nat := (oSqu.Φ (10 * 64 + 0) (canK KPt p ++ canK KPt q)).gf
noncomputable def lenTo (ps : List (List NV)) : Nat → Option Nat
  | 0 => can .f32 0
  | k + 1 => fop .add .f32 (lenTo ps k) (froot (squO (ps.getD k []) (ps.getD (k + 1) [])))

theorem lenTo_next {ps : List (List NV)} {k : Nat} {p q : List NV} (hp : ps[k]? = some p) (hq : ps[k + 1]? = some q) : lenTo ps (k + 1) = fop .add .f32 (lenTo ps k) (froot (squO p q)) := by
  show fop .add .f32 (lenTo ps k) (froot (squO (ps.getD k []) (ps.getD (k + 1) []))) = _
  rw [List.getD_eq_getElem?_getD, List.getD_eq_getElem?_getD, hp, hq]; rfl

theorem calls_pair {P : Program} {Φ : Syms} {e : Opq} {K : List Kd} (h : OpqOK P Φ e) (h0 : e.ext = 0) (h1 : e.same = false) (ha : e.args = [.agg K, .agg K]) (hr : e.res = .p (.one (.f .f32))) (u1 u2 : Value) (p q : List NV) (w : World) (hp : ShM (.agg K) u1 p) (hq : ShM (.agg K) u2 q) :
    Calls P e.f #[u1, u2] w fun en w' => ∃ v, en = .returned v ∧ (∃ x, v = .float .f32 x ∧ FIs .f32 x (Φ (e.sym * 64 + 0) (canK K p ++ canK K q)).gf) ∧ Stays w w' := by
  have := opq_symR h h0 h1 #[u1, u2] (canK K p ++ canK K q) w (by rw [ha]; exact ⟨_, _, rfl, (ShM_can hp).1, _, [], by simp, (ShM_can hq).1, rfl⟩)
  refine this.mono ?_
  rintro en w' ⟨v', rfl, hm, hs⟩
  rw [hr] at hm
  obtain ⟨n, hn, x, hx, hf⟩ := hm
  cases hn
  exact ⟨v', rfl, ⟨x, hx, hf⟩, hs⟩

theorem c_l07Square (u1 u2 : Value) (p q : List NV) (h1 : ShM (.agg KPt) u1 p) (h2 : ShM (.agg KPt) u2 q) (w : World) : Calls Try.prog 76 #[u1, u2] w fun e w' => ∃ v, e = .returned v ∧ (∃ x, v = .float .f32 x ∧ FIs .f32 x (squO p q)) ∧ Stays w w' :=
  calls_pair oSqu.okS rfl rfl rfl rfl u1 u2 p q w h1 h2
theorem c_squareBetween (u1 u2 : Value) (p q : List NV) (h1 : ShM (.agg KPt) u1 p) (h2 : ShM (.agg KPt) u2 q) (w : World) : Calls Try.prog 79 #[u1, u2] w fun e w' => ∃ v, e = .returned v ∧ (∃ x, v = .float .f32 x ∧ FIs .f32 x (squO p q)) ∧ Stays w w' :=
  calls_pair oSqu.okI rfl rfl rfl rfl u1 u2 p q w h1 h2

/-- What a square and its root may be. -/
def rootS (f1 f2 : FuncId) (A0 : Array Value) (o : Option Nat) (f : FuncId) (args : Array Value) (v : Value) : Prop :=
  (f = f1 → args = A0 → ∃ x, v = .float .f32 x ∧ FIs .f32 x o) ∧ (f = f2 → ∀ y, args = #[.float .f32 y] → FIs .f32 y o → ∃ x, v = .float .f32 x ∧ FIs .f32 x (froot o))

theorem rootS_1 {f1 f2 : FuncId} {A0 : Array Value} {o : Option Nat} (hne : f1 ≠ f2) {v : Value} : rootS f1 f2 A0 o f1 A0 v ↔ ∃ x, v = .float .f32 x ∧ FIs .f32 x o :=
  ⟨fun h => h.1 rfl rfl, fun h => ⟨fun _ _ => h, fun e => absurd e hne⟩⟩
theorem rootS_2 {f1 f2 : FuncId} {A0 : Array Value} {o : Option Nat} (hne : f1 ≠ f2) {y : Nat} (hy : FIs .f32 y o) {v : Value} : rootS f1 f2 A0 o f2 #[.float .f32 y] v ↔ ∃ x, v = .float .f32 x ∧ FIs .f32 x (froot o) :=
  ⟨fun h => h.2 rfl y rfl hy, fun h => ⟨fun e => absurd e.symm hne, fun _ z e hz => h⟩⟩

theorem c_l01RootO (y : Nat) (o : Option Nat) (hy : FIs .f32 y o) (w : World) : Calls Try.prog 75 #[.float .f32 y] w fun e w' => ∃ v, e = .returned v ∧ (∃ x, v = .float .f32 x ∧ FIs .f32 x (froot o)) ∧ Stays w w' := by
  have := c_l01Root y w
  unfold r_root at this
  rw [hy.out] at this
  exact this
theorem c_rootOfO (y : Nat) (o : Option Nat) (hy : FIs .f32 y o) (w : World) : Calls Try.prog 78 #[.float .f32 y] w fun e w' => ∃ v, e = .returned v ∧ (∃ x, v = .float .f32 x ∧ FIs .f32 x (froot o)) ∧ Stays w w' := by
  have := c_rootOf y w
  unfold r_root at this
  rw [hy.out] at this
  exact this

def LenAs (w : World) (o : Option Nat) (code : Int) (e : Ending) (w' : World) : Prop := ∃ x, e = .returned (.tuple #[.float .f32 x, .int .i64 code]) ∧ FIs .f32 x o ∧ Below w.heap.size w w'
noncomputable def lenVal (ps : List (List NV)) : Option Nat := if wayB ps = true then lenTo ps (ps.length - 1) else can .f32 0
noncomputable def lenCode (ps : List (List NV)) : Int := if wayB ps = true then 0 else 2

theorem wayB_pos {xs : List (List NV)} (h : wayB xs = true) : 1 ≤ xs.length ∧ xs.length ≤ 600 := by
  unfold wayB at h
  rw [Bool.and_eq_true] at h
  exact of_decide_eq_true h.2

set_option maxRecDepth 100000 in
set_option maxHeartbeats 1000000 in
theorem c_specLen (A : Option Addr) (c : Nat) (xs : List (List NV)) (w : World) (h : Ls KPt 2 w w.heap.size A xs) (hn : xs.length ≤ 1048576) :
    Calls Try.prog 16 #[.slice A xs.length c] w (LenAs w (lenVal xs) (lenCode xs)) := by
  have H := Lib.hid h
  have kW := c_l07Way A c xs w h hn
  unfold lenVal lenCode
  clear h
  cases hw : wayB xs with
  | false =>
    rw [hw] at kW
    replace kW := Lib.hid kW
    go_enter Try.func16, Try.ntmps16
    go_wp2_with (go_at_call 74; refine kW.out.mono ?_; rintro e w1 ⟨rfl, hw1⟩)
    go_ret2
    exact ⟨0, rfl, FIs.self (by decide), hw1⟩
  | true =>
    rw [hw] at kW
    obtain ⟨hp1, hp2⟩ := wayB_pos hw
    replace kW := Lib.hid kW
    clear hw
    go_enter Try.func16, Try.ntmps16
    go_wp2_with (go_at_call 74; refine kW.out.mono ?_; rintro e w1 ⟨rfl, hw1⟩; replace hw1 := Lib.hid hw1)
    go_loopw [4, 5] (fun sv iv wr => ∃ (k x : Nat), k + 1 ≤ xs.length ∧ iv = .int .i64 k ∧ sv = .float .f32 x ∧ Hid (FIs .f32 x (lenTo xs k)) ∧ Hid (Below w.heap.size w wr)) (fun _ iv _ => xs.length - (intOf iv).toNat)
    case atStart => exact ⟨0, 0, hp1, rfl, rfl, Lib.hid (FIs.self (by decide)), hw1⟩
    case round =>
      obtain ⟨k, x, hk, rfl, rfl, hx, hb⟩ := hrel
      by_cases hlt : k + 1 < xs.length
      · obtain ⟨ad, rfl, hbl, hrow⟩ := (H.out.below hb.out) k xs[k] (List.getElem?_eq_getElem (by omega))
        obtain ⟨ad', e, hbl', hrow'⟩ := (H.out.below hb.out) (k + 1) xs[k + 1] (List.getElem?_eq_getElem hlt)
        cases e
        have hnx := lenTo_next (ps := xs) (List.getElem?_eq_getElem (show k < xs.length by omega)) (List.getElem?_eq_getElem hlt)
        generalize xs[k]'(by omega) = p at hrow hnx
        generalize xs[k + 1] = q at hrow' hnx
        obtain ⟨c0, c1, hK, g0, g1⟩ := row2 rfl hrow
        obtain ⟨d0, d1, hK', k0, k1⟩ := row2 rfl hrow'
        have hV : ShM (.agg KPt) (.agg #[c0, c1]) p := ⟨_, rfl, hK⟩
        have hV' : ShM (.agg KPt) (.agg #[d0, d1]) q := ⟨_, rfl, hK'⟩
        have kS := Lib.hid fun W => c_l07Square _ _ p q hV hV' W
        have hlt1 : ∀ n, (ad.add n).block < wr.heap.size := fun n => by rw [block_add]; exact Nat.lt_of_lt_of_le hbl hb.out.size
        have hcells : ∀ w1, Stays wr w1 → w1.cell? (ad.add (k * 2)) = some c0 ∧ w1.cell? ⟨(ad.add (k * 2)).block, (ad.add (k * 2)).off + 1, none⟩ = some c1 ∧ w1.cell? (ad.add ((k + 1) * 2)) = some d0 ∧ w1.cell? ⟨(ad.add ((k + 1) * 2)).block, (ad.add ((k + 1) * 2)).off + 1, none⟩ = some d1 := fun w' hx =>
          ⟨(Below.cell hx (hlt1 _)).trans g0, (Below.cell (p := ⟨(ad.add (k * 2)).block, (ad.add (k * 2)).off + 1, none⟩) hx (hlt1 _)).trans g1, (Below.cell hx (hlt1 _)).trans k0, (Below.cell (p := ⟨(ad.add ((k + 1) * 2)).block, (ad.add ((k + 1) * 2)).off + 1, none⟩) hx (hlt1 _)).trans k1⟩
        have hlt' : (k : Int) < (xs.length : Int) := by omega
        have hlt2 : (k : Int) + 1 < (xs.length : Int) := by omega
        have hk1 : IntKind.i64.wrap ((k : Int) + 1) = ((k + 1 : Nat) : Int) := by rw [IntWalk.i64_in _ (by omega)]; omega
        have hk2 : ((k + 1 : Nat) : Int) < (xs.length : Int) := by omega
        replace hnx := Lib.hid hnx
        have hsq := Lib.hid (Eq.refl (squO p q))
        generalize squO p q = o at kS hnx hsq
        clear hK hK' hV hV' hrow hrow' g0 g1 k0 k1 hsq
        go_wp2_with fail
        refine wp_region_soft_tail 13 (Stays.refl _) (rootS 76 75 #[.agg #[c0, c1], .agg #[d0, d1]] o) [] (by kernel_rfl) (by kernel_rfl) (fun _ h => by cases h) ?_
        simp only [List.take_succ_cons, List.take_zero, List.drop_succ_cons, List.drop_zero]
        repeat ((with_reducible apply soft_detG); (case hwa => rfl); (case hA => rfl); (case h => (intro w1 hw1; have hc := hcells w1 hw1; go_simp; exact rfl)); go_simp)
        refine soft_callW (by rfl) rfl ?h (fun w2 _ => kS.out w2) (fun v hv => (rootS_1 (by decide)).2 hv) (fun v hv => (rootS_1 (by decide)).1 hv) ?_
        case h => (intro w1 hw1; have hc := hcells w1 hw1; go_simp; try exact ⟨rfl, rfl⟩)
        rintro v ⟨y, rfl, hy⟩
        go_simp
        repeat ((with_reducible apply soft_detG); (case hwa => rfl); (case hA => rfl); (case h => (intro w1 hw1; have hc := hcells w1 hw1; go_simp; exact rfl)); go_simp)
        refine soft_callW (by rfl) rfl ?h (fun w2 _ => c_l01RootO y o hy w2) (fun v hv => (rootS_2 (by decide) hy).2 hv) (fun v hv => (rootS_2 (by decide) hy).1 hv) ?_
        case h => (intro w1 hw1; go_simp; try exact ⟨rfl, rfl⟩)
        rintro v ⟨z, rfl, hz⟩
        go_simp
        repeat ((with_reducible apply soft_detG); (case hwa => rfl); (case hA => rfl); (case h => (intro w1 hw1; have hc := hcells w1 hw1; go_simp; exact rfl)); go_simp)
        ((with_reducible refine soft_fop rfl ?hA _ _ _ _ _ rfl rfl _ _ _ rfl rfl ?_); (case hA => rfl); intro r hr; go_simp)
        refine soft_nil ?_
        rintro w2 ⟨hw2, _⟩
        rw [hx.out.out, hz.out, ← hnx.out] at hr
        replace hr := Lib.hid hr
        replace hw2 := Lib.hid (hb.out.trans (Below.mono hw2 hb.out.size))
        clear hcells
        go_wp2
        go_roundw
        case rel => exact ⟨k + 1, _, by omega, by go_num, rfl, hr, hw2⟩
        case measure => simp [intOf]; omega
      · have e : k = xs.length - 1 := by omega
        have hlt2 : ¬ (k : Int) + 1 < (xs.length : Int) := by omega
        have hk1 : IntKind.i64.wrap ((k : Int) + 1) = (k : Int) + 1 := by rw [IntWalk.i64_in _ (by omega)]
        replace e := Lib.hid e
        go_wp2
        go_ret2
        exact ⟨_, rfl, by rw [← e.out]; exact hx.out, hb.out⟩
theorem next_addr (a : Addr) (k : Nat) : a.add ((k + 1) * 2) = ⟨a.block, a.off + 2 + k * 2, none⟩ := by
  unfold Addr.add
  split
  · rename_i h
    omega
  · congr 1
    omega

theorem slice_tail {ad : Addr} {n c : Nat} (h1 : 1 ≤ n) (hc : n ≤ c) : ∃ A', (∀ w, (Instr.slice 22 (.slice (some ad) n c) (some (.int .i64 1)) none none).run Try.prog w = .ok (.slice A' (n - 1) (c - 1)) w) ∧ (1 < n → A' = some (ad.add 2)) := by
  have hsz : ∀ w : World, (sizeOf (Try.prog.elem 22)).run Try.prog w = .ok 2 w := fun w => by kernel_rfl
  have hel : Try.prog.elem 22 = 32 := by kernel_rfl
  refine ⟨if c = 1 then some ad else some (ad.add 2), fun w => ?_, fun h => if_neg (by omega)⟩
  rw [run_slice_l w 22 (some ad) n c (by rw [hel]; exact Try.underlying22) .i64 1 (by decide) (by omega), hsz]
  by_cases h : c = 1
  · subst h; rfl
  · simp [Result.andThen, sliced, h]

set_option maxRecDepth 100000 in
set_option maxHeartbeats 1000000 in
theorem c_implLen (A : Option Addr) (c : Nat) (xs : List (List NV)) (w : World) (h : Ls KPt 2 w w.heap.size A xs) (hn : xs.length ≤ 1048576) (hc : xs.length ≤ c) :
    Calls Try.prog 18 #[.slice A xs.length c] w (LenAs w (lenVal xs) (lenCode xs)) := by
  have H := Lib.hid h
  have kW := c_isWay A c xs w h hn
  unfold lenVal lenCode
  clear h
  cases hw : wayB xs with
  | false =>
    rw [hw] at kW
    replace kW := Lib.hid kW
    go_enter Try.func18, Try.ntmps18
    go_wp2_with (go_at_call 77; refine kW.out.mono ?_; rintro e w1 ⟨rfl, hw1⟩)
    go_ret2
    exact ⟨0, rfl, FIs.self (by decide), hw1⟩
  | true =>
    rw [hw] at kW
    obtain ⟨hp1, hp2⟩ := wayB_pos hw
    replace kW := Lib.hid kW
    clear hw
    have hp1' : (1 : Int) ≤ (xs.length : Int) := by omega
    obtain ⟨ad, rfl, hbl0, _⟩ := H.out 0 xs[0] (List.getElem?_eq_getElem (by omega))
    obtain ⟨A', hsl, hA'⟩ := slice_tail (ad := ad) (n := xs.length) (c := c) hp1 hc
    replace hA' := Lib.hid hA'
    go_enter Try.func18, Try.ntmps18
    go_wp2_with (go_at_call 77; refine kW.out.mono ?_; rintro e w1 ⟨rfl, hw1⟩; replace hw1 := Lib.hid hw1)
    go_loopw [4, 13] (fun sv iv wr => ∃ (k x : Nat), k ≤ xs.length - 1 ∧ iv = .int .i64 k ∧ sv = .float .f32 x ∧ Hid (FIs .f32 x (lenTo xs k)) ∧ Hid (Below w.heap.size w wr)) (fun _ iv _ => xs.length - (intOf iv).toNat)
    case atStart => exact ⟨0, 0, Nat.zero_le _, rfl, rfl, Lib.hid (FIs.self (by decide)), hw1⟩
    case round =>
      obtain ⟨k, x, hk, rfl, rfl, hx, hb⟩ := hrel
      by_cases hlt : k + 1 < xs.length
      · obtain ⟨ad1, e, hbl, hrow⟩ := (H.out.below hb.out) k xs[k] (List.getElem?_eq_getElem (by omega))
        cases e
        have hAe := hA'.out (by omega)
        subst hAe
        obtain ⟨ad', e, hbl', hrow'⟩ := (H.out.below hb.out) (k + 1) xs[k + 1] (List.getElem?_eq_getElem hlt)
        cases e
        have hnx := lenTo_next (ps := xs) (List.getElem?_eq_getElem (show k < xs.length by omega)) (List.getElem?_eq_getElem hlt)
        generalize xs[k]'(by omega) = p at hrow hnx
        generalize xs[k + 1] = q at hrow' hnx
        obtain ⟨c0, c1, hK, g0, g1⟩ := row2 rfl hrow
        obtain ⟨d0', d1', hK', k0, k1⟩ := row2 rfl hrow'
        obtain ⟨d0, d1, e, _, _⟩ := pt_cells hK'
        cases e
        have hV : ShM (.agg KPt) (.agg #[c0, c1]) p := ⟨_, rfl, hK⟩
        have hV' : ShM (.agg KPt) (.agg #[.float .f32 d0, .float .f32 d1]) q := ⟨_, rfl, hK'⟩
        have kS := Lib.hid fun W => c_squareBetween _ _ p q hV hV' W
        have hlt1 : ∀ n, (ad.add n).block < wr.heap.size := fun n => by rw [block_add]; exact Nat.lt_of_lt_of_le hbl hb.out.size
        have eA : ad.add ((k + 1) * 2) = ⟨ad.block, ad.off + 2 + k * 2, none⟩ := next_addr ad k
        have m0 : wr.cell? ⟨ad.block, ad.off + 2 + k * 2, none⟩ = some (.float .f32 d0) := by rw [← eA]; exact k0
        have m1 : wr.cell? ⟨ad.block, ad.off + 2 + k * 2 + 1, none⟩ = some (.float .f32 d1) := by rw [eA] at k1; exact k1
        clear eA
        have hbx := heap_alloc_new wr (.cells #[.float .f32 d0, .float .f32 d1] 32)
        have hsx : Stays wr (wr.alloc (.cells #[.float .f32 d0, .float .f32 d1] 32)) := by (repeat (first | exact Stays.refl _ | (with_reducible refine Stays.drewN ?_ _) | (with_reducible refine Stays.alloc ?_ _) | (with_reducible refine Stays.drew ?_) | (refine Stays.trans ?_ ‹Stays _ _›)))
        have hcells : ∀ w1, Stays (wr.alloc (.cells #[.float .f32 d0, .float .f32 d1] 32)) w1 → w1.cell? (ad.add (k * 2)) = some c0 ∧ w1.cell? ⟨(ad.add (k * 2)).block, (ad.add (k * 2)).off + 1, none⟩ = some c1 ∧ w1.cell? ⟨wr.heap.size, 0, none⟩ = some (.float .f32 d0) ∧ w1.cell? ⟨wr.heap.size, 1, none⟩ = some (.float .f32 d1) := fun w' hx' => by
          have hx := Stays.trans hsx hx'
          exact
            ⟨(Below.cell hx (hlt1 _)).trans g0, (Below.cell (p := ⟨(ad.add (k * 2)).block, (ad.add (k * 2)).off + 1, none⟩) hx (hlt1 _)).trans g1, row_of hx' hbx 0, row_of hx' hbx 1⟩
        have hlt' : (k : Int) < (xs.length : Int) := by omega
        have hlt2 : (k : Int) < ((xs.length - 1 : Nat) : Int) := by omega
        have hsx2 := Lib.hid hsx
        replace hnx := Lib.hid hnx
        have hsq := Lib.hid (Eq.refl (squO p q))
        generalize squO p q = o at kS hnx hsq
        clear hK hK' hV hV' hrow hrow' g0 g1 k0 k1 hsq hsx hbx
        go_wp2_with fail
        generalize (wr.alloc (.cells #[.float .f32 d0, .float .f32 d1] 32)) = WM at hcells hsx2 ⊢
        refine wp_region_soft_tail 9 (Stays.refl _) (rootS 79 78 #[.agg #[c0, c1], .agg #[.float .f32 d0, .float .f32 d1]] o) [] (by kernel_rfl) (by kernel_rfl) (fun _ h => by cases h) ?_
        simp only [List.take_succ_cons, List.take_zero, List.drop_succ_cons, List.drop_zero]
        repeat ((with_reducible apply soft_detG); (case hwa => rfl); (case hA => rfl); (case h => (intro w1 hw1; have hc := hcells w1 hw1; go_simp; exact rfl)); go_simp)
        refine soft_callW (by rfl) rfl ?h (fun w2 _ => kS.out w2) (fun v hv => (rootS_1 (by decide)).2 hv) (fun v hv => (rootS_1 (by decide)).1 hv) ?_
        case h => (intro w1 hw1; have hc := hcells w1 hw1; go_simp; try exact ⟨rfl, rfl⟩)
        rintro v ⟨y, rfl, hy⟩
        go_simp
        repeat ((with_reducible apply soft_detG); (case hwa => rfl); (case hA => rfl); (case h => (intro w1 hw1; have hc := hcells w1 hw1; go_simp; exact rfl)); go_simp)
        refine soft_callW (by rfl) rfl ?h (fun w2 _ => c_rootOfO y o hy w2) (fun v hv => (rootS_2 (by decide) hy).2 hv) (fun v hv => (rootS_2 (by decide) hy).1 hv) ?_
        case h => (intro w1 hw1; go_simp; try exact ⟨rfl, rfl⟩)
        rintro v ⟨z, rfl, hz⟩
        go_simp
        repeat ((with_reducible apply soft_detG); (case hwa => rfl); (case hA => rfl); (case h => (intro w1 hw1; have hc := hcells w1 hw1; go_simp; exact rfl)); go_simp)
        ((with_reducible refine soft_fop rfl ?hA _ _ _ _ _ rfl rfl _ _ _ rfl rfl ?_); (case hA => rfl); intro r hr; go_simp)
        refine soft_nil ?_
        rintro w2 ⟨hw2, _⟩
        rw [hx.out.out, hz.out, ← hnx.out] at hr
        replace hr := Lib.hid hr
        replace hw2 := Lib.hid (hb.out.trans (Below.mono (Stays.trans hsx2.out hw2) hb.out.size))
        clear hcells
        go_wp2
        go_roundw
        case rel => exact ⟨_, _, _, _, ⟨k + 1, by omega, by go_num, _, rfl, hr⟩, rfl, rfl, rfl, rfl⟩
        case measure => simp [intOf]; omega
      · have e : k = xs.length - 1 := by omega
        have hlt2 : ¬ (k : Int) < ((xs.length - 1 : Nat) : Int) := by omega
        replace e := Lib.hid e
        go_wp2
        go_ret2
        exact ⟨_, rfl, by rw [← e.out]; exact hx.out, hb.out⟩
set_option maxRecDepth 100000 in
set_option maxHeartbeats 1000000 in
theorem c_lawLen (A : Option Addr) (c : Nat) (xs : List (List NV)) (w : World) (h : Ls KPt 2 w w.heap.size A xs) (hn : xs.length ≤ 9223372036854775807) :
    Calls Try.prog 3 #[.slice A xs.length c] w fun e w' => e = .returned (.bool true) ∧ Below w.heap.size w w' := by
  have H := Lib.hid h
  have kz := fun W => c_szFloat32A2S A c xs.length 1048576 W hn (by omega) (by omega)
  clear h
  by_cases hl : (1048576 : Int) - xs.length < 0
  · simp only [if_pos hl] at kz
    replace kz := Lib.hid kz
    go_enter Try.func3, Try.ntmps3
    go_wp2_with fail
    refine (kz.out _).mono ?_
    rintro e w1 ⟨rfl, rfl⟩
    go_wp2
    go_ret
    exact ⟨rfl, Below.refl _ _⟩
  · simp only [if_neg hl] at kz
    have hn' : xs.length ≤ 1048576 := by omega
    have hX : ¬ ((1048576 : Int) - xs.length < 0) := hl
    generalize (1048576 : Int) - xs.length = X at hX kz
    replace kz := Lib.hid kz
    have kS := Lib.hid fun A c w h => c_specLen A c xs w h hn'
    have kI := Lib.hid fun A c w h hc => c_implLen A c xs w h hn' hc
    generalize lenVal xs = val at kS kI
    generalize lenCode xs = code at kS kI
    clear hl hn
    go_enter Try.func3, Try.ntmps3
    go_wp2_with fail
    refine (kz.out _).mono ?_
    rintro e w1 ⟨rfl, rfl⟩
    go_wp2_with fail
    refine (c_toFloat32A2S A c xs w H.out hn').mono ?_
    rintro e w1 ⟨rfl, h1⟩
    have hb1 := Lib.hid h1.below
    have hx1 := Lib.hid h1.lies.rows
    clear h1
    go_wp2_with fail
    refine (kS.out _ _ w1 hx1.out).mono ?_
    rintro e w2 ⟨x0, rfl, hx0, hb⟩
    have hb2 := Lib.hid (hb1.out.trans (hb.mono hb1.out.size))
    replace hx0 := Lib.hid hx0
    clear hb hx1
    go_wp2_with fail
    refine (c_toFloat32A2S A c xs w2 ((H.out.below hb2.out).more hb2.out.size) hn').mono ?_
    rintro e w3 ⟨rfl, h3⟩
    have hb3 := Lib.hid (hb2.out.trans (h3.below.mono hb2.out.size))
    have hL := Lib.hid h3.lies
    clear h3
    go_wp2_with fail
    refine (kI.out _ _ w3 hL.out.rows (Nat.le_refl _)).mono ?_
    rintro e w4 ⟨x1, rfl, hx1, hb⟩
    have hb4 := Lib.hid (hb3.out.trans (hb.mono hb3.out.size))
    replace hL := Lib.hid (hL.out.below hb)
    have hee : can .f32 x1 = can .f32 x0 := by rw [hx1.out, hx0.out.out]
    replace hee := Lib.hid hee
    clear hb hx1
    go_wp2_with (first
      | ((with_reducible refine wpList_widen rfl _ _ _ rfl _ rfl (some_of Try.underlying24) Try.underlying29 ?_); intro r n hr)
      | (go_at_call 19; refine (c_sameFloat _ _ _ (wide_same hee.out ‹FIs _ _ _› ‹FIs _ _ _›)).mono ?_; rintro e w5 ⟨rfl, hb⟩))
    have hs5 : Stays w4 w5 := Stays.trans (by (repeat (first | exact Stays.refl _ | (with_reducible refine Stays.drewN ?_ _) | (with_reducible refine Stays.alloc ?_ _) | (with_reducible refine Stays.drew ?_) | (refine Stays.trans ?_ ‹Stays _ _›)))) hb
    have hb5 := Lib.hid (hb4.out.trans (Below.mono hs5 hb4.out.size))
    replace hL := Lib.hid (hL.out.below hs5)
    clear hb hs5
    refine (c_toFloat32A2S A c xs w5 ((H.out.below hb5.out).more hb5.out.size) hn').mono ?_
    rintro e w6 ⟨rfl, h6⟩
    have hb6 := Lib.hid (hb5.out.trans (h6.below.mono hb5.out.size))
    have hy := Lib.hid h6.lies.rows
    replace hL := Lib.hid (hL.out.below h6.below)
    clear h6
    go_wp2_with fail
    refine (c_eqFloat32A2S _ _ _ _ xs w6 hL.out.rows hy.out hn').mono ?_
    rintro e w7 ⟨rfl, hb⟩
    have hb7 := Lib.hid (hb6.out.trans (hb.mono hb6.out.size))
    clear hb
    go_wp2
    go_ret
    exact ⟨rfl, hb7.out⟩
end Go.Proofs.Ytdahlpljgcibfab
