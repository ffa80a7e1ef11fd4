/- Whether a mark is better, on both sides, and its law. No condition. -/
import Derived.Test.YtmcbeaihjdnelaaBtc
namespace Go.Proofs.Ytmcbeaihjdnelaa
open Go Go.RowKit
set_option linter.unusedVariables false
set_option linter.unusedSimpArgs false


def wd (o : Option Nat) : Nat := o.getD 0
def ordO (o o' : Option Nat) : Ordering := (FloatKind.f32.format.order (wd o) (wd o')).getD .eq
def betP (m m' : Mk) : Bool := firstPos (icmp m.l m'.l) (wcmp (ordO m.d m'.d)) (icmp m.s m'.s) (first3 (fcmp (ordO m.a m'.a) (wd m.a) (wd m'.a)) (fcmp (ordO m.b m'.b) (wd m.b) (wd m'.b)) (fcmp (ordO m.c m'.c) (wd m.c) (wd m'.c)))
def betB (m m' : Mk) : Bool := validB m && (validB m' && betP m m')

theorem word_of {r : Nat} {o : Option Nat} (h : FIs .f32 r o) (hf : finB o = true) : r = wd o ∧ finB (can .f32 r) = true ∧ r < 4294967296 := by
  refine ⟨?_, by rw [h.out]; exact hf, h.lt⟩
  cases o with
  | none => cases hf
  | some b => exact h.num
theorem ordW_of {r r' : Nat} {o o' : Option Nat} (h : FIs .f32 r o) (h' : FIs .f32 r' o') (hf : finB o = true) (hf' : finB o' = true) : OrdW r r' (ordO o o') ∧ r = wd o ∧ r' = wd o' := by
  obtain ⟨e, f, l⟩ := word_of h hf
  obtain ⟨e', f', l'⟩ := word_of h' hf'
  obtain ⟨od, hO⟩ := OrdW.of f f' l l'
  refine ⟨?_, e, e'⟩
  have : ordO o o' = od := by unfold ordO; rw [← e, ← e', hO.ord]; rfl
  rw [this]
  exact hO
theorem valid_fin {m : Mk} (h : validB m = true) : finB m.a = true ∧ finB m.b = true ∧ finB m.c = true ∧ finB m.d = true := by
  unfold validB at h
  simp only [Bool.and_eq_true] at h
  exact ⟨h.1.1.1.1.1, h.1.1.1.1.2, h.1.1.1.2, h.1.1.2.1⟩

theorem row_box {w : World} {p : Nat} {cs : Array Value} {t : TypeId} {r : List NV} (h : w.heap[p]? = some (.cells cs t (0, 0))) (hk : KMs mkK cs.toList r) : RowAt mkK w ⟨p, 0, none⟩ r :=
  RowAt.of_range hk fun j u hu => by rw [cell_of_row _ _ _ _ _ _ h]; simpa using hu

set_option maxRecDepth 100000 in
set_option maxHeartbeats 4000000 in
theorem c_implBetterMark (v v' : Value) (m m' : Mk) (w : World) (h : IsMk v m) (h' : IsMk v' m') : Calls Try.prog 20 #[v, v'] w fun e w' => e = .returned (.bool (betB m m')) ∧ Stays w w' := by
  obtain ⟨ra, rb, rc, rd, rfl, ha, hb, hc, hd⟩ := mk_val h
  obtain ⟨ra', rb', rc', rd', rfl, ha', hb', hc', hd'⟩ := mk_val h'
  have hst : Stays w ((w.alloc (.cells #[.int .i32 m.x, .int .i32 m.y, .int .i32 m.z, .float .f32 ra, .float .f32 rb, .float .f32 rc, .float .f32 rd, .int .i64 m.s, .int .i64 m.l] 45)).alloc (.cells #[.int .i32 m'.x, .int .i32 m'.y, .int .i32 m'.z, .float .f32 ra', .float .f32 rb', .float .f32 rc', .float .f32 rd', .int .i64 m'.s, .int .i64 m'.l] 45)) := by (repeat (first | exact Stays.refl _ | (with_reducible refine Stays.drewN ?_ _) | (with_reducible refine Stays.alloc ?_ _) | (with_reducible refine Stays.drew ?_) | (refine Stays.trans ?_ ‹Stays _ _›)))
  have u0 : ((w.alloc (.cells #[.int .i32 m.x, .int .i32 m.y, .int .i32 m.z, .float .f32 ra, .float .f32 rb, .float .f32 rc, .float .f32 rd, .int .i64 m.s, .int .i64 m.l] 45)).alloc (.cells #[.int .i32 m'.x, .int .i32 m'.y, .int .i32 m'.z, .float .f32 ra', .float .f32 rb', .float .f32 rc', .float .f32 rd', .int .i64 m'.s, .int .i64 m'.l] 45)).heap[w.heap.size]? = some (.cells #[.int .i32 m.x, .int .i32 m.y, .int .i32 m.z, .float .f32 ra, .float .f32 rb, .float .f32 rc, .float .f32 rd, .int .i64 m.s, .int .i64 m.l] 45 (0, 0)) := by (repeat (first | (refine heap_top _ _ _ ?_; simp; done) | (with_reducible refine heap_drawn _ _ _ ?_) | (with_reducible refine heap_under _ _ _ ?_ ?_; (simp <;> omega))))
  have u1 : ((w.alloc (.cells #[.int .i32 m.x, .int .i32 m.y, .int .i32 m.z, .float .f32 ra, .float .f32 rb, .float .f32 rc, .float .f32 rd, .int .i64 m.s, .int .i64 m.l] 45)).alloc (.cells #[.int .i32 m'.x, .int .i32 m'.y, .int .i32 m'.z, .float .f32 ra', .float .f32 rb', .float .f32 rc', .float .f32 rd', .int .i64 m'.s, .int .i64 m'.l] 45)).heap[w.heap.size + 1]? = some (.cells #[.int .i32 m'.x, .int .i32 m'.y, .int .i32 m'.z, .float .f32 ra', .float .f32 rb', .float .f32 rc', .float .f32 rd', .int .i64 m'.s, .int .i64 m'.l] 45 (0, 0)) := by (repeat (first | (refine heap_top _ _ _ ?_; simp; done) | (with_reducible refine heap_drawn _ _ _ ?_) | (with_reducible refine heap_under _ _ _ ?_ ?_; (simp <;> omega))))
  have HB := Lib.hid fun W (hW : Stays ((w.alloc (.cells #[.int .i32 m.x, .int .i32 m.y, .int .i32 m.z, .float .f32 ra, .float .f32 rb, .float .f32 rc, .float .f32 rd, .int .i64 m.s, .int .i64 m.l] 45)).alloc (.cells #[.int .i32 m'.x, .int .i32 m'.y, .int .i32 m'.z, .float .f32 ra', .float .f32 rb', .float .f32 rc', .float .f32 rd', .int .i64 m'.s, .int .i64 m'.l] 45)) W) => And.intro (And.intro (row_of hW u0) (row_of hW u1)) (hst.trans hW)
  have k1 := fun W (hW : Stays ((w.alloc (.cells #[.int .i32 m.x, .int .i32 m.y, .int .i32 m.z, .float .f32 ra, .float .f32 rb, .float .f32 rc, .float .f32 rd, .int .i64 m.s, .int .i64 m.l] 45)).alloc (.cells #[.int .i32 m'.x, .int .i32 m'.y, .int .i32 m'.z, .float .f32 ra', .float .f32 rb', .float .f32 rc', .float .f32 rd', .int .i64 m'.s, .int .i64 m'.l] 45)) W) => c_isValid (.agg #[.int .i32 m.x, .int .i32 m.y, .int .i32 m.z, .float .f32 ra, .float .f32 rb, .float .f32 rc, .float .f32 rd, .int .i64 m.s, .int .i64 m.l]) m W h
  have k2 := fun W (hW : Stays ((w.alloc (.cells #[.int .i32 m.x, .int .i32 m.y, .int .i32 m.z, .float .f32 ra, .float .f32 rb, .float .f32 rc, .float .f32 rd, .int .i64 m.s, .int .i64 m.l] 45)).alloc (.cells #[.int .i32 m'.x, .int .i32 m'.y, .int .i32 m'.z, .float .f32 ra', .float .f32 rb', .float .f32 rc', .float .f32 rd', .int .i64 m'.s, .int .i64 m'.l] 45)) W) => c_isValid (.agg #[.int .i32 m'.x, .int .i32 m'.y, .int .i32 m'.z, .float .f32 ra', .float .f32 rb', .float .f32 rc', .float .f32 rd', .int .i64 m'.s, .int .i64 m'.l]) m' W h'
  cases hv : validB m with
  | false =>
    have hf : Hid (betB m m' = false) := Lib.hid (by unfold betB; rw [hv]; rfl)
    rw [hv] at k1
    replace k1 := Lib.hid k1
    clear k2
    clear u0 u1 hst
    go_enter Try.func20, Try.ntmps20
    have hb1 := Lib.hid (Stays.refl ((w.alloc (.cells #[.int .i32 m.x, .int .i32 m.y, .int .i32 m.z, .float .f32 ra, .float .f32 rb, .float .f32 rc, .float .f32 rd, .int .i64 m.s, .int .i64 m.l] 45)).alloc (.cells #[.int .i32 m'.x, .int .i32 m'.y, .int .i32 m'.z, .float .f32 ra', .float .f32 rb', .float .f32 rc', .float .f32 rd', .int .i64 m'.s, .int .i64 m'.l] 45)))
    obtain ⟨⟨p0, p1⟩, _⟩ := HB.out _ hb1.out
    go_wp2_with fail
    refine (k1.out _ hb1.out).mono ?_
    rintro e w1 ⟨rfl, hb⟩
    replace hb1 := Lib.hid (hb1.out.trans hb)
    clear hb p0 p1
    go_wp2
    go_ret
    exact ⟨ret_b hf.out.symm, (HB.out _ hb1.out).2⟩
  | true =>
    rw [hv] at k1
    replace k1 := Lib.hid k1
    cases hv' : validB m' with
    | false =>
      have hf : Hid (betB m m' = false) := Lib.hid (by unfold betB; rw [hv, hv']; rfl)
      rw [hv'] at k2
      replace k2 := Lib.hid k2
      clear u0 u1 hst
      go_enter Try.func20, Try.ntmps20
      have hb1 := Lib.hid (Stays.refl ((w.alloc (.cells #[.int .i32 m.x, .int .i32 m.y, .int .i32 m.z, .float .f32 ra, .float .f32 rb, .float .f32 rc, .float .f32 rd, .int .i64 m.s, .int .i64 m.l] 45)).alloc (.cells #[.int .i32 m'.x, .int .i32 m'.y, .int .i32 m'.z, .float .f32 ra', .float .f32 rb', .float .f32 rc', .float .f32 rd', .int .i64 m'.s, .int .i64 m'.l] 45)))
      obtain ⟨⟨p0, p1⟩, _⟩ := HB.out _ hb1.out
      go_wp2_with fail
      refine (k1.out _ hb1.out).mono ?_
      rintro e w1 ⟨rfl, hb⟩
      replace hb1 := Lib.hid (hb1.out.trans hb)
      clear hb p0 p1
      obtain ⟨⟨p0, p1⟩, _⟩ := HB.out _ hb1.out
      go_wp2_with fail
      refine (k2.out _ hb1.out).mono ?_
      rintro e w1 ⟨rfl, hb⟩
      replace hb1 := Lib.hid (hb1.out.trans hb)
      clear hb p0 p1
      go_wp2
      go_ret
      exact ⟨ret_b hf.out.symm, (HB.out _ hb1.out).2⟩
    | true =>
      rw [hv'] at k2
      replace k2 := Lib.hid k2
      obtain ⟨fa, fb, fc, fd⟩ := valid_fin hv
      obtain ⟨fa', fb', fc', fd'⟩ := valid_fin hv'
      have oa := ordW_of ha ha' fa fa'
      have ob := ordW_of hb hb' fb fb'
      have oc := ordW_of hc hc' fc fc'
      have od := ordW_of hd hd' fd fd'
      have k3 := fun W (hW : Stays ((w.alloc (.cells #[.int .i32 m.x, .int .i32 m.y, .int .i32 m.z, .float .f32 ra, .float .f32 rb, .float .f32 rc, .float .f32 rd, .int .i64 m.s, .int .i64 m.l] 45)).alloc (.cells #[.int .i32 m'.x, .int .i32 m'.y, .int .i32 m'.z, .float .f32 ra', .float .f32 rb', .float .f32 rc', .float .f32 rd', .int .i64 m'.s, .int .i64 m'.l] 45)) W) => c_isBetter m.x m.y m.z ra rb rc rd m.s m.l m'.x m'.y m'.z ra' rb' rc' rd' m'.s m'.l _ _ _ _ W (fun W => c_cmpLast m.x m.y m.z ra rb rc rd m.s m.l m'.x m'.y m'.z ra' rb' rc' rd' m'.s m'.l W) (fun W => c_cmpWeight m.x m.y m.z ra rb rc rd m.s m.l m'.x m'.y m'.z ra' rb' rc' rd' m'.s m'.l W _ od.1) (fun W => c_cmpSeen m.x m.y m.z ra rb rc rd m.s m.l m'.x m'.y m'.z ra' rb' rc' rd' m'.s m'.l W) (fun W => c_cmpAt m.x m.y m.z ra rb rc rd m.s m.l m'.x m'.y m'.z ra' rb' rc' rd' m'.s m'.l _ _ _ W oa.1 ob.1 oc.1)
      have hf0 : betB m m' = betP m m' := by unfold betB; rw [hv, hv']; rfl
      unfold betP at hf0
      rw [← oa.2.1, ← oa.2.2, ← ob.2.1, ← ob.2.2, ← oc.2.1, ← oc.2.2] at hf0
      rw [← hf0] at k3
      replace k3 := Lib.hid k3
      have hf : Hid (betB m m' = betB m m') := Lib.hid rfl
      clear hf0 oa ob oc od fa fb fc fd fa' fb' fc' fd' ha hb hc hd ha' hb' hc' hd' hv hv' h h'
      generalize betB m m' = B at k3 hf ⊢
      clear u0 u1 hst
      go_enter Try.func20, Try.ntmps20
      have hb1 := Lib.hid (Stays.refl ((w.alloc (.cells #[.int .i32 m.x, .int .i32 m.y, .int .i32 m.z, .float .f32 ra, .float .f32 rb, .float .f32 rc, .float .f32 rd, .int .i64 m.s, .int .i64 m.l] 45)).alloc (.cells #[.int .i32 m'.x, .int .i32 m'.y, .int .i32 m'.z, .float .f32 ra', .float .f32 rb', .float .f32 rc', .float .f32 rd', .int .i64 m'.s, .int .i64 m'.l] 45)))
      obtain ⟨⟨p0, p1⟩, _⟩ := HB.out _ hb1.out
      go_wp2_with fail
      refine (k1.out _ hb1.out).mono ?_
      rintro e w1 ⟨rfl, hb⟩
      replace hb1 := Lib.hid (hb1.out.trans hb)
      clear hb p0 p1
      obtain ⟨⟨p0, p1⟩, _⟩ := HB.out _ hb1.out
      go_wp2_with fail
      refine (k2.out _ hb1.out).mono ?_
      rintro e w1 ⟨rfl, hb⟩
      replace hb1 := Lib.hid (hb1.out.trans hb)
      clear hb p0 p1
      obtain ⟨⟨p0, p1⟩, _⟩ := HB.out _ hb1.out
      go_wp2_with fail
      refine (k3.out _ hb1.out).mono ?_
      rintro e w1 ⟨rfl, hb⟩
      replace hb1 := Lib.hid (hb1.out.trans hb)
      clear hb p0 p1
      go_wp2
      go_ret
      exact ⟨rfl, (HB.out _ hb1.out).2⟩

set_option maxRecDepth 100000 in
set_option maxHeartbeats 4000000 in
theorem c_specBetterMark (v v' : Value) (m m' : Mk) (w : World) (h : IsMk v m) (h' : IsMk v' m') : Calls Try.prog 18 #[v, v'] w fun e w' => e = .returned (.bool (betB m m')) ∧ Stays w w' := by
  obtain ⟨ra, rb, rc, rd, rfl, ha, hb, hc, hd⟩ := mk_val h
  obtain ⟨ra', rb', rc', rd', rfl, ha', hb', hc', hd'⟩ := mk_val h'
  have hst : Stays w ((w.alloc (.cells #[.int .i32 m.x, .int .i32 m.y, .int .i32 m.z, .float .f32 ra, .float .f32 rb, .float .f32 rc, .float .f32 rd, .int .i64 m.s, .int .i64 m.l] 45)).alloc (.cells #[.int .i32 m'.x, .int .i32 m'.y, .int .i32 m'.z, .float .f32 ra', .float .f32 rb', .float .f32 rc', .float .f32 rd', .int .i64 m'.s, .int .i64 m'.l] 45)) := by (repeat (first | exact Stays.refl _ | (with_reducible refine Stays.drewN ?_ _) | (with_reducible refine Stays.alloc ?_ _) | (with_reducible refine Stays.drew ?_) | (refine Stays.trans ?_ ‹Stays _ _›)))
  have u0 : ((w.alloc (.cells #[.int .i32 m.x, .int .i32 m.y, .int .i32 m.z, .float .f32 ra, .float .f32 rb, .float .f32 rc, .float .f32 rd, .int .i64 m.s, .int .i64 m.l] 45)).alloc (.cells #[.int .i32 m'.x, .int .i32 m'.y, .int .i32 m'.z, .float .f32 ra', .float .f32 rb', .float .f32 rc', .float .f32 rd', .int .i64 m'.s, .int .i64 m'.l] 45)).heap[w.heap.size]? = some (.cells #[.int .i32 m.x, .int .i32 m.y, .int .i32 m.z, .float .f32 ra, .float .f32 rb, .float .f32 rc, .float .f32 rd, .int .i64 m.s, .int .i64 m.l] 45 (0, 0)) := by (repeat (first | (refine heap_top _ _ _ ?_; simp; done) | (with_reducible refine heap_drawn _ _ _ ?_) | (with_reducible refine heap_under _ _ _ ?_ ?_; (simp <;> omega))))
  have u1 : ((w.alloc (.cells #[.int .i32 m.x, .int .i32 m.y, .int .i32 m.z, .float .f32 ra, .float .f32 rb, .float .f32 rc, .float .f32 rd, .int .i64 m.s, .int .i64 m.l] 45)).alloc (.cells #[.int .i32 m'.x, .int .i32 m'.y, .int .i32 m'.z, .float .f32 ra', .float .f32 rb', .float .f32 rc', .float .f32 rd', .int .i64 m'.s, .int .i64 m'.l] 45)).heap[w.heap.size + 1]? = some (.cells #[.int .i32 m'.x, .int .i32 m'.y, .int .i32 m'.z, .float .f32 ra', .float .f32 rb', .float .f32 rc', .float .f32 rd', .int .i64 m'.s, .int .i64 m'.l] 45 (0, 0)) := by (repeat (first | (refine heap_top _ _ _ ?_; simp; done) | (with_reducible refine heap_drawn _ _ _ ?_) | (with_reducible refine heap_under _ _ _ ?_ ?_; (simp <;> omega))))
  have HB := Lib.hid fun W (hW : Stays ((w.alloc (.cells #[.int .i32 m.x, .int .i32 m.y, .int .i32 m.z, .float .f32 ra, .float .f32 rb, .float .f32 rc, .float .f32 rd, .int .i64 m.s, .int .i64 m.l] 45)).alloc (.cells #[.int .i32 m'.x, .int .i32 m'.y, .int .i32 m'.z, .float .f32 ra', .float .f32 rb', .float .f32 rc', .float .f32 rd', .int .i64 m'.s, .int .i64 m'.l] 45)) W) => And.intro (And.intro (row_of hW u0) (row_of hW u1)) (hst.trans hW)
  have hk1 : KMs mkK (#[.int .i32 m.x, .int .i32 m.y, .int .i32 m.z, .float .f32 ra, .float .f32 rb, .float .f32 rc, .float .f32 rd, .int .i64 m.s, .int .i64 m.l] : Array Value).toList m.ins := by obtain ⟨cs, e, hk⟩ := h; cases e; exact hk
  have hk2 : KMs mkK (#[.int .i32 m'.x, .int .i32 m'.y, .int .i32 m'.z, .float .f32 ra', .float .f32 rb', .float .f32 rc', .float .f32 rd', .int .i64 m'.s, .int .i64 m'.l] : Array Value).toList m'.ins := by obtain ⟨cs, e, hk⟩ := h'; cases e; exact hk
  have k1 := fun W (hW : Stays ((w.alloc (.cells #[.int .i32 m.x, .int .i32 m.y, .int .i32 m.z, .float .f32 ra, .float .f32 rb, .float .f32 rc, .float .f32 rd, .int .i64 m.s, .int .i64 m.l] 45)).alloc (.cells #[.int .i32 m'.x, .int .i32 m'.y, .int .i32 m'.z, .float .f32 ra', .float .f32 rb', .float .f32 rc', .float .f32 rd', .int .i64 m'.s, .int .i64 m'.l] 45)) W) => c_l05Mark ⟨w.heap.size, 0, none⟩ m W (row_box ((Below.block hW _ (in_heap u0)).trans u0) hk1) (Nat.lt_of_lt_of_le (in_heap u0) hW.size)
  have k2 := fun W (hW : Stays ((w.alloc (.cells #[.int .i32 m.x, .int .i32 m.y, .int .i32 m.z, .float .f32 ra, .float .f32 rb, .float .f32 rc, .float .f32 rd, .int .i64 m.s, .int .i64 m.l] 45)).alloc (.cells #[.int .i32 m'.x, .int .i32 m'.y, .int .i32 m'.z, .float .f32 ra', .float .f32 rb', .float .f32 rc', .float .f32 rd', .int .i64 m'.s, .int .i64 m'.l] 45)) W) => c_l05Mark ⟨w.heap.size + 1, 0, none⟩ m' W (row_box ((Below.block hW _ (in_heap u1)).trans u1) hk2) (Nat.lt_of_lt_of_le (in_heap u1) hW.size)
  cases hv : validB m with
  | false =>
    have hf : Hid (betB m m' = false) := Lib.hid (by unfold betB; rw [hv]; rfl)
    rw [hv] at k1
    replace k1 := Lib.hid k1
    clear k2
    clear u0 u1 hst
    go_enter Try.func18, Try.ntmps18
    have hb1 := Lib.hid (Stays.refl ((w.alloc (.cells #[.int .i32 m.x, .int .i32 m.y, .int .i32 m.z, .float .f32 ra, .float .f32 rb, .float .f32 rc, .float .f32 rd, .int .i64 m.s, .int .i64 m.l] 45)).alloc (.cells #[.int .i32 m'.x, .int .i32 m'.y, .int .i32 m'.z, .float .f32 ra', .float .f32 rb', .float .f32 rc', .float .f32 rd', .int .i64 m'.s, .int .i64 m'.l] 45)))
    go_wp2_with fail
    refine (k1.out _ hb1.out).mono ?_
    rintro e w1 ⟨rfl, hb⟩
    replace hb1 := Lib.hid (hb1.out.trans hb)
    clear hb
    go_wp2
    go_ret
    exact ⟨ret_b hf.out.symm, (HB.out _ hb1.out).2⟩
  | true =>
    rw [hv] at k1
    replace k1 := Lib.hid k1
    cases hv' : validB m' with
    | false =>
      have hf : Hid (betB m m' = false) := Lib.hid (by unfold betB; rw [hv, hv']; rfl)
      rw [hv'] at k2
      replace k2 := Lib.hid k2
      clear u0 u1 hst
      go_enter Try.func18, Try.ntmps18
      have hb1 := Lib.hid (Stays.refl ((w.alloc (.cells #[.int .i32 m.x, .int .i32 m.y, .int .i32 m.z, .float .f32 ra, .float .f32 rb, .float .f32 rc, .float .f32 rd, .int .i64 m.s, .int .i64 m.l] 45)).alloc (.cells #[.int .i32 m'.x, .int .i32 m'.y, .int .i32 m'.z, .float .f32 ra', .float .f32 rb', .float .f32 rc', .float .f32 rd', .int .i64 m'.s, .int .i64 m'.l] 45)))
      go_wp2_with fail
      refine (k1.out _ hb1.out).mono ?_
      rintro e w1 ⟨rfl, hb⟩
      replace hb1 := Lib.hid (hb1.out.trans hb)
      clear hb
      go_wp2_with fail
      refine (k2.out _ hb1.out).mono ?_
      rintro e w1 ⟨rfl, hb⟩
      replace hb1 := Lib.hid (hb1.out.trans hb)
      clear hb
      go_wp2
      go_ret
      exact ⟨ret_b hf.out.symm, (HB.out _ hb1.out).2⟩
    | true =>
      rw [hv'] at k2
      replace k2 := Lib.hid k2
      obtain ⟨fa, fb, fc, fd⟩ := valid_fin hv
      obtain ⟨fa', fb', fc', fd'⟩ := valid_fin hv'
      have oa := ordW_of ha ha' fa fa'
      have ob := ordW_of hb hb' fb fb'
      have oc := ordW_of hc hc' fc fc'
      have od := ordW_of hd hd' fd fd'
      have k3 := fun W (hW : Stays ((w.alloc (.cells #[.int .i32 m.x, .int .i32 m.y, .int .i32 m.z, .float .f32 ra, .float .f32 rb, .float .f32 rc, .float .f32 rd, .int .i64 m.s, .int .i64 m.l] 45)).alloc (.cells #[.int .i32 m'.x, .int .i32 m'.y, .int .i32 m'.z, .float .f32 ra', .float .f32 rb', .float .f32 rc', .float .f32 rd', .int .i64 m'.s, .int .i64 m'.l] 45)) W) => c_l05Better w.heap.size (w.heap.size + 1) m.x m.y m.z ra rb rc rd m.s m.l m'.x m'.y m'.z ra' rb' rc' rd' m'.s m'.l _ _ _ _ W ((Below.block hW _ (in_heap u0)).trans u0) ((Below.block hW _ (in_heap u1)).trans u1) od.1 oa.1 ob.1 oc.1
      have hf0 : betB m m' = betP m m' := by unfold betB; rw [hv, hv']; rfl
      unfold betP at hf0
      rw [← oa.2.1, ← oa.2.2, ← ob.2.1, ← ob.2.2, ← oc.2.1, ← oc.2.2] at hf0
      rw [← hf0] at k3
      replace k3 := Lib.hid k3
      have hf : Hid (betB m m' = betB m m') := Lib.hid rfl
      clear hf0 oa ob oc od fa fb fc fd fa' fb' fc' fd' ha hb hc hd ha' hb' hc' hd' hv hv' h h'
      generalize betB m m' = B at k3 hf ⊢
      clear u0 u1 hst
      go_enter Try.func18, Try.ntmps18
      have hb1 := Lib.hid (Stays.refl ((w.alloc (.cells #[.int .i32 m.x, .int .i32 m.y, .int .i32 m.z, .float .f32 ra, .float .f32 rb, .float .f32 rc, .float .f32 rd, .int .i64 m.s, .int .i64 m.l] 45)).alloc (.cells #[.int .i32 m'.x, .int .i32 m'.y, .int .i32 m'.z, .float .f32 ra', .float .f32 rb', .float .f32 rc', .float .f32 rd', .int .i64 m'.s, .int .i64 m'.l] 45)))
      go_wp2_with fail
      refine (k1.out _ hb1.out).mono ?_
      rintro e w1 ⟨rfl, hb⟩
      replace hb1 := Lib.hid (hb1.out.trans hb)
      clear hb
      go_wp2_with fail
      refine (k2.out _ hb1.out).mono ?_
      rintro e w1 ⟨rfl, hb⟩
      replace hb1 := Lib.hid (hb1.out.trans hb)
      clear hb
      go_wp2_with fail
      refine (k3.out _ hb1.out).mono ?_
      rintro e w1 ⟨rfl, hb⟩
      replace hb1 := Lib.hid (hb1.out.trans hb)
      clear hb
      go_wp2
      go_ret
      exact ⟨rfl, (HB.out _ hb1.out).2⟩

set_option maxRecDepth 100000 in
set_option maxHeartbeats 4000000 in
theorem c_lawBetterMark (v v' : Value) (m m' : Mk) (w : World) (h : IsMk v m) (h' : IsMk v' m') : Calls Try.prog 4 #[v, v'] w fun e w' => e = .returned (.bool true) ∧ Below w.heap.size w w' := by
  obtain ⟨ra, rb, rc, rd, rfl, _, _, _, _⟩ := mk_val h
  obtain ⟨ra', rb', rc', rd', rfl, _, _, _, _⟩ := mk_val h'
  have hst : Stays w ((w.alloc (.cells #[.int .i32 m.x, .int .i32 m.y, .int .i32 m.z, .float .f32 ra, .float .f32 rb, .float .f32 rc, .float .f32 rd, .int .i64 m.s, .int .i64 m.l] 41)).alloc (.cells #[.int .i32 m'.x, .int .i32 m'.y, .int .i32 m'.z, .float .f32 ra', .float .f32 rb', .float .f32 rc', .float .f32 rd', .int .i64 m'.s, .int .i64 m'.l] 41)) := by (repeat (first | exact Stays.refl _ | (with_reducible refine Stays.drewN ?_ _) | (with_reducible refine Stays.alloc ?_ _) | (with_reducible refine Stays.drew ?_) | (refine Stays.trans ?_ ‹Stays _ _›)))
  have u0 : ((w.alloc (.cells #[.int .i32 m.x, .int .i32 m.y, .int .i32 m.z, .float .f32 ra, .float .f32 rb, .float .f32 rc, .float .f32 rd, .int .i64 m.s, .int .i64 m.l] 41)).alloc (.cells #[.int .i32 m'.x, .int .i32 m'.y, .int .i32 m'.z, .float .f32 ra', .float .f32 rb', .float .f32 rc', .float .f32 rd', .int .i64 m'.s, .int .i64 m'.l] 41)).heap[w.heap.size]? = some (.cells #[.int .i32 m.x, .int .i32 m.y, .int .i32 m.z, .float .f32 ra, .float .f32 rb, .float .f32 rc, .float .f32 rd, .int .i64 m.s, .int .i64 m.l] 41 (0, 0)) := by (repeat (first | (refine heap_top _ _ _ ?_; simp; done) | (with_reducible refine heap_drawn _ _ _ ?_) | (with_reducible refine heap_under _ _ _ ?_ ?_; (simp <;> omega))))
  have u1 : ((w.alloc (.cells #[.int .i32 m.x, .int .i32 m.y, .int .i32 m.z, .float .f32 ra, .float .f32 rb, .float .f32 rc, .float .f32 rd, .int .i64 m.s, .int .i64 m.l] 41)).alloc (.cells #[.int .i32 m'.x, .int .i32 m'.y, .int .i32 m'.z, .float .f32 ra', .float .f32 rb', .float .f32 rc', .float .f32 rd', .int .i64 m'.s, .int .i64 m'.l] 41)).heap[w.heap.size + 1]? = some (.cells #[.int .i32 m'.x, .int .i32 m'.y, .int .i32 m'.z, .float .f32 ra', .float .f32 rb', .float .f32 rc', .float .f32 rd', .int .i64 m'.s, .int .i64 m'.l] 41 (0, 0)) := by (repeat (first | (refine heap_top _ _ _ ?_; simp; done) | (with_reducible refine heap_drawn _ _ _ ?_) | (with_reducible refine heap_under _ _ _ ?_ ?_; (simp <;> omega))))
  have HB := Lib.hid fun W (hW : Stays ((w.alloc (.cells #[.int .i32 m.x, .int .i32 m.y, .int .i32 m.z, .float .f32 ra, .float .f32 rb, .float .f32 rc, .float .f32 rd, .int .i64 m.s, .int .i64 m.l] 41)).alloc (.cells #[.int .i32 m'.x, .int .i32 m'.y, .int .i32 m'.z, .float .f32 ra', .float .f32 rb', .float .f32 rc', .float .f32 rd', .int .i64 m'.s, .int .i64 m'.l] 41)) W) => And.intro (And.intro (row_of hW u0) (row_of hW u1)) (hst.trans hW)
  have kA := Lib.hid fun W => c_toMark (.agg #[.int .i32 m.x, .int .i32 m.y, .int .i32 m.z, .float .f32 ra, .float .f32 rb, .float .f32 rc, .float .f32 rd, .int .i64 m.s, .int .i64 m.l]) m W h
  have kB := Lib.hid fun W => c_toMark (.agg #[.int .i32 m'.x, .int .i32 m'.y, .int .i32 m'.z, .float .f32 ra', .float .f32 rb', .float .f32 rc', .float .f32 rd', .int .i64 m'.s, .int .i64 m'.l]) m' W h'
  have kS := fun v v' h h' W => c_specBetterMark v v' m m' W h h'
  have kI := fun v v' h h' W => c_implBetterMark v v' m m' W h h'
  generalize betB m m' = B at kS kI
  replace kS := Lib.hid kS
  replace kI := Lib.hid kI
  have hb1 := Lib.hid (Stays.refl ((w.alloc (.cells #[.int .i32 m.x, .int .i32 m.y, .int .i32 m.z, .float .f32 ra, .float .f32 rb, .float .f32 rc, .float .f32 rd, .int .i64 m.s, .int .i64 m.l] 41)).alloc (.cells #[.int .i32 m'.x, .int .i32 m'.y, .int .i32 m'.z, .float .f32 ra', .float .f32 rb', .float .f32 rc', .float .f32 rd', .int .i64 m'.s, .int .i64 m'.l] 41)))
  clear u0 u1 hst h h'
  go_enter Try.func4, Try.ntmps4
  go_wp2_with fail
  generalize ((w.alloc (.cells #[.int .i32 m.x, .int .i32 m.y, .int .i32 m.z, .float .f32 ra, .float .f32 rb, .float .f32 rc, .float .f32 rd, .int .i64 m.s, .int .i64 m.l] 41)).alloc (.cells #[.int .i32 m'.x, .int .i32 m'.y, .int .i32 m'.z, .float .f32 ra', .float .f32 rb', .float .f32 rc', .float .f32 rd', .int .i64 m'.s, .int .i64 m'.l] 41)) = W0 at HB hb1 ⊢
  have G : Hid (∀ w', Stays W0 w' → ((∀ i, w'.cell? ⟨w.heap.size, i, none⟩ = (#[.int .i32 m.x, .int .i32 m.y, .int .i32 m.z, .float .f32 ra, .float .f32 rb, .float .f32 rc, .float .f32 rd, .int .i64 m.s, .int .i64 m.l] : Array Value)[i]?) ∧ (∀ i, w'.cell? ⟨w.heap.size + 1, i, none⟩ = (#[.int .i32 m'.x, .int .i32 m'.y, .int .i32 m'.z, .float .f32 ra', .float .f32 rb', .float .f32 rc', .float .f32 rd', .int .i64 m'.s, .int .i64 m'.l] : Array Value)[i]?) ∧ Hid (Stays W0 w'))) := Lib.hid fun w' h => ⟨(HB.out _ (hb1.out.trans h)).1.1, (HB.out _ (hb1.out.trans h)).1.2, Lib.hid h⟩
  have h5 := Lib.hid (show Stays W0 W0.drew from (Stays.refl W0).drew)
  go_wp2_with fail
  go_region_held (fun w' => ((∀ i, w'.cell? ⟨w.heap.size, i, none⟩ = (#[.int .i32 m.x, .int .i32 m.y, .int .i32 m.z, .float .f32 ra, .float .f32 rb, .float .f32 rc, .float .f32 rd, .int .i64 m.s, .int .i64 m.l] : Array Value)[i]?) ∧ (∀ i, w'.cell? ⟨w.heap.size + 1, i, none⟩ = (#[.int .i32 m'.x, .int .i32 m'.y, .int .i32 m'.z, .float .f32 ra', .float .f32 rb', .float .f32 rc', .float .f32 rd', .int .i64 m'.s, .int .i64 m'.l] : Array Value)[i]?) ∧ Hid (Stays W0 w'))) (first | with_reducible exact G.out _ h5.out | with_reducible exact G.out _ h6.out | with_reducible exact G.out _ h7.out | with_reducible exact G.out _ h8.out)
    (first
      | (go_at_call 19; (with_reducible refine (kA.out _).mono ?_); rintro e wa ⟨cs1, rfl, hk1, hb⟩; have hm1 := Lib.hid (show IsMk (.agg cs1) m from ⟨cs1, rfl, hk1⟩); have h6 := Lib.hid (h5.out.trans hb); clear hb hk1)
      | (go_at_call 19; (with_reducible refine (kB.out _).mono ?_); rintro e wb ⟨cs2, rfl, hk2, hb⟩; have hm2 := Lib.hid (show IsMk (.agg cs2) m' from ⟨cs2, rfl, hk2⟩); have h7 := Lib.hid (h6.out.trans hb); clear hb hk2)
      | (go_at_call 18; refine (kS.out _ _ hm1.out hm2.out _).mono ?_; rintro e wc ⟨rfl, hb⟩; have h8 := Lib.hid (h7.out.trans hb); clear hb))
  replace hb1 := Lib.hid (hb1.out.trans h8.out)
  clear G h5 h6 h7 h8 hm1 hm2
  have G : Hid (∀ w', Stays wc w' → ((∀ i, w'.cell? ⟨w.heap.size, i, none⟩ = (#[.int .i32 m.x, .int .i32 m.y, .int .i32 m.z, .float .f32 ra, .float .f32 rb, .float .f32 rc, .float .f32 rd, .int .i64 m.s, .int .i64 m.l] : Array Value)[i]?) ∧ (∀ i, w'.cell? ⟨w.heap.size + 1, i, none⟩ = (#[.int .i32 m'.x, .int .i32 m'.y, .int .i32 m'.z, .float .f32 ra', .float .f32 rb', .float .f32 rc', .float .f32 rd', .int .i64 m'.s, .int .i64 m'.l] : Array Value)[i]?) ∧ Hid (Stays wc w'))) := Lib.hid fun w' h => ⟨(HB.out _ (hb1.out.trans h)).1.1, (HB.out _ (hb1.out.trans h)).1.2, Lib.hid h⟩
  have h5 := Lib.hid (show Stays wc wc.drew from (Stays.refl wc).drew)
  go_wp2_with fail
  go_region_held (fun w' => ((∀ i, w'.cell? ⟨w.heap.size, i, none⟩ = (#[.int .i32 m.x, .int .i32 m.y, .int .i32 m.z, .float .f32 ra, .float .f32 rb, .float .f32 rc, .float .f32 rd, .int .i64 m.s, .int .i64 m.l] : Array Value)[i]?) ∧ (∀ i, w'.cell? ⟨w.heap.size + 1, i, none⟩ = (#[.int .i32 m'.x, .int .i32 m'.y, .int .i32 m'.z, .float .f32 ra', .float .f32 rb', .float .f32 rc', .float .f32 rd', .int .i64 m'.s, .int .i64 m'.l] : Array Value)[i]?) ∧ Hid (Stays wc w'))) (first | with_reducible exact G.out _ h5.out | with_reducible exact G.out _ h6.out | with_reducible exact G.out _ h7.out | with_reducible exact G.out _ h8.out)
    (first
      | (go_at_call 19; (with_reducible refine (kA.out _).mono ?_); rintro e wd ⟨cs1, rfl, hk1, hb⟩; have hm1 := Lib.hid (show IsMk (.agg cs1) m from ⟨cs1, rfl, hk1⟩); have h6 := Lib.hid (h5.out.trans hb); clear hb hk1)
      | (go_at_call 19; (with_reducible refine (kB.out _).mono ?_); rintro e we ⟨cs2, rfl, hk2, hb⟩; have hm2 := Lib.hid (show IsMk (.agg cs2) m' from ⟨cs2, rfl, hk2⟩); have h7 := Lib.hid (h6.out.trans hb); clear hb hk2)
      | (go_at_call 20; refine (kI.out _ _ hm1.out hm2.out _).mono ?_; rintro e wf ⟨rfl, hb⟩; have h8 := Lib.hid (h7.out.trans hb); clear hb))
  replace hb1 := Lib.hid (hb1.out.trans h8.out)
  clear G h5 h6 h7 h8 hm1 hm2
  have hBB : (B != B) = false := by simp
  go_wp2
  go_ret
  exact ⟨rfl, (HB.out _ hb1.out).2⟩
end Go.Proofs.Ytmcbeaihjdnelaa
