/- Readings that have arrived. No condition. -/
import Derived.Test.YtpfihfdbkoclnabLh
import Derived.Test.YtpfihfdbkoclnabLs
namespace Go.Proofs.Ytpfihfdbkoclnab
open Go Go.RowKit
set_option linter.unusedVariables false

def there_ (d time : Int) (r : Rd) : Bool := decide (wrap64 (r.t + d) ≤ time)

def arrTo (d time : Int) (rs : List Rd) : Nat → List Rd
  | 0 => []
  | k + 1 => match rs[k]? with
    | some r => if there_ d time r then arrTo d time rs k ++ [r] else arrTo d time rs k
    | none => arrTo d time rs k

theorem arrTo_len (d time : Int) (rs : List Rd) : ∀ k, (arrTo d time rs k).length ≤ k
  | 0 => Nat.le_refl _
  | k + 1 => by
    unfold arrTo
    have := arrTo_len d time rs k
    split
    · split
      · rw [List.length_append]; simp; omega
      · omega
    · omega

theorem arr_true {d time : Int} {rs : List Rd} {k : Nat} {r : Rd} (h : there_ d time r = true) (hr : rs[k]? = some r) : arrTo d time rs (k + 1) = arrTo d time rs k ++ [r] := by
  show (match rs[k]? with
    | some r => if there_ d time r then arrTo d time rs k ++ [r] else arrTo d time rs k
    | none => arrTo d time rs k) = _
  rw [hr]; simp only; rw [if_pos h]
theorem arr_false {d time : Int} {rs : List Rd} {k : Nat} {r : Rd} (h : there_ d time r = false) (hr : rs[k]? = some r) : arrTo d time rs (k + 1) = arrTo d time rs k := by
  show (match rs[k]? with
    | some r => if there_ d time r then arrTo d time rs k ++ [r] else arrTo d time rs k
    | none => arrTo d time rs k) = _
  rw [hr]; simp only; rw [if_neg (by rw [h]; exact Bool.false_ne_true)]

theorem KMs_cons {k : Kd} {ks : List Kd} {vs : List Value} {xs : List NV} (h : KMs (k :: ks) vs xs) : ∃ v vs' x xs', vs = v :: vs' ∧ xs = x :: xs' ∧ KM k v x ∧ KMs ks vs' xs' := by
  match vs, xs, h with
  | v :: vs, x :: xs, ⟨h1, h2⟩ => exact ⟨v, vs, x, xs, rfl, rfl, h1, h2⟩

theorem KMs_none {vs : List Value} {xs : List NV} (h : KMs [] vs xs) : vs = [] ∧ xs = [] := by
  match vs, xs, h with
  | [], [], _ => exact ⟨rfl, rfl⟩

/-- A sensor, cell by cell. -/
theorem Sen.cells {v : Value} {ins : List NV} (h : Sen v ins) : ∃ r0 r1 r2 r3 r4 r5 : Nat, ∃ e d : Int, v = .agg #[.float .f32 r0, .float .f32 r1, .float .f32 r2, .float .f32 r3, .float .f32 r4, .float .f32 r5, .int .i64 e, .int .i64 d] ∧ d = (ins.getD 7 (.i 0)).gi := by
  obtain ⟨cs, rfl, hk⟩ := h
  obtain ⟨l⟩ := cs
  obtain ⟨v0, l0, x0, m0, e0, f0, ⟨r0, k0, _⟩, hk⟩ := KMs_cons hk
  obtain ⟨v1, l1, x1, m1, e1, f1, ⟨r1, k1, _⟩, hk⟩ := KMs_cons hk
  obtain ⟨v2, l2, x2, m2, e2, f2, ⟨r2, k2, _⟩, hk⟩ := KMs_cons hk
  obtain ⟨v3, l3, x3, m3, e3, f3, ⟨r3, k3, _⟩, hk⟩ := KMs_cons hk
  obtain ⟨v4, l4, x4, m4, e4, f4, ⟨r4, k4, _⟩, hk⟩ := KMs_cons hk
  obtain ⟨v5, l5, x5, m5, e5, f5, ⟨r5, k5, _⟩, hk⟩ := KMs_cons hk
  obtain ⟨v6, l6, x6, m6, e6, f6, k6, hk⟩ := KMs_cons hk
  obtain ⟨v7, l7, x7, m7, e7, f7, k7, hk⟩ := KMs_cons hk
  obtain ⟨e8, f8⟩ := KMs_none hk
  have k6 : v6 = .int .i64 x6.gi := k6
  have k7 : v7 = .int .i64 x7.gi := k7
  have e0 : l = v0 :: l0 := e0
  subst e8 e7 e6 e5 e4 e3 e2 e1 e0 f8 f7 f6 f5 f4 f3 f2 f1 f0 k0 k1 k2 k3 k4 k5 k6 k7
  exact ⟨r0, r1, r2, r3, r4, r5, x6.gi, x7.gi, rfl, rfl⟩

def codeOf (sb fb tb : Bool) : Int := if sb && fb then (if tb then 0 else 2) else 1

set_option maxRecDepth 100000 in
theorem c_l04Both (p c : Nat) (cs : Array Value) (ins : List NV) (A : Option Addr) (rs : List Rd) (time : Int) (w : World) (hg : w.heap[p]? = some (.cells cs 48 (0, 0))) (hs : Sen (.agg cs) ins) (h : Feed w w.heap.size A rs) (hn : rs.length ≤ 1048576) :
    Calls Try.prog 76 #[.pointer (some ⟨p, 0, none⟩), .slice A rs.length c, .int .i64 time] w fun e w' => e = .returned (.int .i64 (codeOf (sensB ins) (feedOK (rs.map (·.t)) && decide (rs.length ≤ 256)) (okTime time))) ∧ Below w.heap.size w w' := by
  have hF : ∀ w', Below w.heap.size w w' → Calls Try.prog 69 #[.slice A rs.length c] w' fun e w2 => e = .returned (.bool (feedOK (rs.map (·.t)) && decide (rs.length ≤ 256))) ∧ Below w'.heap.size w' w2 := by
    intro w' hb
    have := c_l04Feed A c (rs.map (·.t)) w' (h.below hb).times (by simpa using hn)
    rw [List.length_map] at this
    refine this.mono ?_
    rintro e w2 ⟨rfl, m, rfl⟩
    exact ⟨rfl, below_drewN w' m⟩
  have hF := Lib.hid hF
  have hS := Lib.hid (c_l04Sensor p cs ins w hg hs)
  clear h hg hs
  generalize (feedOK (rs.map (·.t)) && decide (rs.length ≤ 256)) = fb at hF ⊢
  generalize sensB ins = sb at hS ⊢
  cases ht : okTime time <;> cases sb <;> cases fb
  all_goals
    have ht := Lib.hid ht
    go_enter Try.func76, Try.ntmps76
    go_wp2_with fail
    refine hS.out.mono ?_
    rintro e w1 ⟨rfl, h1⟩
    have hF1 := Lib.hid (hF.out w1 h1)
    have h1 := Lib.hid h1
    go_wp2_with (first
      | (go_at_call 69; refine hF1.out.mono ?_; rintro e w2 ⟨rfl, h2⟩; have h2 := Lib.hid (h1.out.trans (h2.mono h1.out.size)))
      | (go_at_call 70; refine (c_l04Time _ _).mono ?_; rintro e w3 ⟨rfl, rfl⟩; rw [ht.out]))
    go_ret
    first
      | exact ⟨rfl, h2.out⟩
      | exact ⟨rfl, h1.out⟩

theorem Grows.lower {w w1 wr : World} {v : Value} {xs : List Rd} (h : Grows w1 wr v xs) (hb : Below w.heap.size w w1) : Grows w wr v xs := by
  refine ⟨⟨h.own.1, ?_⟩, hb.trans (h.below.mono hb.size)⟩
  rcases h.own.2 with h0 | ⟨g, cap, cur, e, hbase, rest⟩
  · exact Or.inl h0
  · exact Or.inr ⟨g, cap, cur, e, Nat.le_trans hb.size hbase, rest⟩

abbrev senCells (r0 r1 r2 r3 r4 r5 : Nat) (ev d : Int) : Array Value := #[.float .f32 r0, .float .f32 r1, .float .f32 r2, .float .f32 r3, .float .f32 r4, .float .f32 r5, .int .i64 ev, .int .i64 d]

set_option maxRecDepth 100000 in
set_option maxHeartbeats 800000 in
theorem c_specArrived (v : Value) (ins : List NV) (hs : Sen v ins) (A : Option Addr) (c : Nat) (time : Int) (rs : List Rd) (w : World) (h : Feed w w.heap.size A rs) (hn : rs.length ≤ 1048576) :
    Calls Try.prog 25 #[v, .slice A rs.length c, .int .i64 time] w (DoneAs w (codeOf (sensB ins) (feedOK (rs.map (·.t)) && decide (rs.length ≤ 256)) (okTime time)) (if codeOf (sensB ins) (feedOK (rs.map (·.t)) && decide (rs.length ≤ 256)) (okTime time) = 0 then arrTo (ins.getD 7 (.i 0)).gi time rs rs.length else [])) := by
  obtain ⟨r0, r1, r2, r3, r4, r5, ev, d, rfl, hd⟩ := hs.cells
  rw [← hd]
  clear hd
  obtain ⟨wa, hwa⟩ : ∃ wa, wa = w.alloc (.cells (senCells r0 r1 r2 r3 r4 r5 ev d) 48) := ⟨_, rfl⟩
  have hal : Below w.heap.size w wa := by rw [hwa]; exact (Below.refl _ _).alloc (Nat.le_refl _) _
  have hbox : wa.heap[w.heap.size]? = some (.cells (senCells r0 r1 r2 r3 r4 r5 ev d) 48 (0, 0)) := by rw [hwa]; exact heap_alloc_new w _
  have hlt : w.heap.size < wa.heap.size := (Array.getElem?_eq_some_iff.1 hbox).1
  have hcell : wa.cell? ⟨w.heap.size, 7, none⟩ = some (.int .i64 d) := by rw [cell_of_row _ _ _ _ _ _ hbox]; rfl
  have hB := Lib.hid (c_l04Both w.heap.size c _ ins A rs time wa hbox hs ((h.below hal).more hal.size) hn)
  have H := Lib.hid ((h.below hal).more hal.size)
  have hal := Lib.hid hal
  have hcell := Lib.hid hcell
  have hlt := Lib.hid hlt
  clear h hs hbox
  obtain ⟨i0, hi0, hz0, hz1, hz2⟩ := info_parts info50
  generalize codeOf (sensB ins) (feedOK (rs.map (·.t)) && decide (rs.length ≤ 256)) (okTime time) = code at hB ⊢
  by_cases hc : code = 0
  · subst hc
    go_enter Try.func25, Try.ntmps25
    go_wp2_with fail
    rw [show w.alloc (.cells #[.float .f32 r0, .float .f32 r1, .float .f32 r2, .float .f32 r3, .float .f32 r4, .float .f32 r5, .int .i64 ev, .int .i64 d] 48) = wa from hwa.symm]
    have hwa := Lib.hid hwa
    refine hB.out.mono ?_
    rintro e w1 ⟨rfl, h1⟩
    have h1 := Lib.hid h1
    go_wp2
    go_loopw [9, 10] (fun v i wr => ∃ (k : Nat) (ao : Option Addr) (cv : Nat), k ≤ rs.length ∧ i = .int .i64 k ∧ v = .slice ao (arrTo d time rs k).length cv ∧ Hid (Grows wa wr v (arrTo d time rs k))) (fun _ i _ => rs.length - (intOf i).toNat)
    case atStart => exact ⟨0, _, _, Nat.zero_le _, rfl, rfl, Lib.hid (Grows.empty h1.out)⟩
    case round =>
      obtain ⟨k, ao, cv, hk, rfl, rfl, hg⟩ := hrel
      by_cases hlt2 : k < rs.length
      · obtain ⟨ad, rfl, hbl, hc1, hc2, hc3, hc4⟩ := (H.out.below hg.out.below) k rs[k] (List.getElem?_eq_getElem hlt2)
        have hrk : Hid (rs[k]? = some rs[k]) := Lib.hid (List.getElem?_eq_getElem hlt2)
        generalize rs[k] = r at hc1 hc2 hc3 hc4 hrk
        have hdel : wr.cell? ⟨w.heap.size, 7, none⟩ = some (.int .i64 d) := by rw [hg.out.below.cell (p := ⟨w.heap.size, 7, none⟩) hlt.out]; exact hcell.out
        have hlt' : (k : Int) < (rs.length : Int) := by omega
        have hlen := arrTo_len d time rs k
        have hsize := hg.out.below.size
        have hown := Lib.hid hg.out.own
        generalize hks : arrTo d time rs k = ks at hown hlen hg ⊢
        have hks := Lib.hid hks
        cases hbit : there_ d time r with
        | true =>
          have hb1 : IntKind.i64.wrap (r.t + d) ≤ time := by rw [IntWalk.i64_left]; exact of_decide_eq_true hbit
          have hb2 : decide (wrap64 (r.t + d) ≤ time) = true := hbit
          have hb3 : decide (IntKind.i64.wrap (r.t + d) ≤ time) = true := decide_eq_true hb1
          have hbit := Lib.hid hbit
          go_wp2_with fail
          go_quiet (fail)
          have hown := Lib.hid (show (wr.drewN nq).ownsRow wa.heap.size 34 4 (.slice ao ks.length cv) ks.length (cellsOf ks) from hown.out)
          have hg := Lib.hid (hg.out.drewN nq)
          have hsz : (wr.drewN nq).heap.size = wr.heap.size := rfl
          have hc1' : (wr.drewN nq).cell? (ad.add (k * 4)) = some (.int .i64 r.t) := hc1
          have hc2' : (wr.drewN nq).cell? ⟨(ad.add (k * 4)).block, (ad.add (k * 4)).off + 1, none⟩ = some (.int .i16 r.a) := hc2
          have hc3' : (wr.drewN nq).cell? ⟨(ad.add (k * 4)).block, (ad.add (k * 4)).off + 2, none⟩ = some (.int .i16 r.b) := hc3
          have hc4' : (wr.drewN nq).cell? ⟨(ad.add (k * 4)).block, (ad.add (k * 4)).off + 3, none⟩ = some (.int .i16 r.c) := hc4
          rw [← hsz] at hsize
          clear hc1 hc2 hc3 hc4 hdel hsz hbl
          generalize wr.drewN nq = wr at hown hg hc1' hc2' hc3' hc4' hsize ⊢
          go_wp2_with (first
            | (at_builtin; go_loud (refine wpList_append_own _ rfl _ _ 28 rfl wa.heap.size 34 i0 (.agg #[.int .i64 0, .int .i16 0, .int .i16 0, .int .i16 0]) 4 16 Try.underlying28 hi0 hz0 hz1 hz2 rfl (by decide) _ _ _ rfl (hown.out.alloc _) ⟨wr.heap.size, 0, none⟩ 1 1 [.int .i64 r.t, .int .i16 r.a, .int .i16 r.b, .int .i16 r.c] rfl rfl (World.news_of_block (heap_alloc_new wr _)) (cells_one r) (by unfold maxLen; omega) (by omega) (by simp; omega) ?_); intro v' w2 hown1 hgrow _))
          have hg2 := Lib.hid (hg.out.more (r := r) hown1 hgrow)
          go_round
          case rel =>
            obtain ⟨ao', cv', hv⟩ := hg2.out.form
            have e := arr_true hbit.out hrk.out
            rw [hks.out] at e
            exact ⟨k + 1, ao', cv', by omega, by go_num, by rw [e]; exact hv, by rw [e]; exact hg2⟩
          case measure => simp [intOf]; omega
        | false =>
          have hb1 : ¬ IntKind.i64.wrap (r.t + d) ≤ time := by rw [IntWalk.i64_left]; exact of_decide_eq_false hbit
          have hb2 : decide (wrap64 (r.t + d) ≤ time) = false := hbit
          have hb3 : decide (IntKind.i64.wrap (r.t + d) ≤ time) = false := decide_eq_false hb1
          have hbit := Lib.hid hbit
          go_wp2_with fail
          go_quiet (fail)
          have hg := Lib.hid (hg.out.drewN nq)
          go_wp2_with fail
          go_round
          case rel =>
            have e := arr_false hbit.out hrk.out
            rw [hks.out] at e
            exact ⟨k + 1, ao, cv, by omega, by go_num, by rw [e], by rw [e]; exact hg⟩
          case measure => simp [intOf]; omega
      · have e : k = rs.length := by omega
        subst e
        go_wp2
        go_ret2
        exact ⟨_, rfl, hg.out.lower hal.out⟩
  · have hc1 : (code == 0) = false := by simpa using hc
    have hc2 : (code != 0) = true := by simp [bne, hc1]
    rw [if_neg hc]
    have hc := Lib.hid hc
    go_enter Try.func25, Try.ntmps25
    go_wp2_with fail
    rw [show w.alloc (.cells #[.float .f32 r0, .float .f32 r1, .float .f32 r2, .float .f32 r3, .float .f32 r4, .float .f32 r5, .int .i64 ev, .int .i64 d] 48) = wa from hwa.symm]
    have hwa := Lib.hid hwa
    refine hB.out.mono ?_
    rintro e w1 ⟨rfl, h1⟩
    have h1 := Lib.hid h1
    go_wp2
    go_ret2
    exact ⟨_, rfl, (Grows.empty h1.out).lower hal.out⟩

set_option maxRecDepth 100000 in
set_option maxHeartbeats 800000 in
theorem c_implArrived (v : Value) (ins : List NV) (hs : Sen v ins) (A : Option Addr) (c : Nat) (time : Int) (rs : List Rd) (w : World) (h : Feed w w.heap.size A rs) (hn : rs.length ≤ 1048576) :
    Calls Try.prog 27 #[v, .slice A rs.length c, .int .i64 time] w (DoneAs w (codeOf (sensB ins) (feedOK (rs.map (·.t)) && decide (rs.length ≤ 256)) (okTime time)) (if codeOf (sensB ins) (feedOK (rs.map (·.t)) && decide (rs.length ≤ 256)) (okTime time) = 0 then arrTo (ins.getD 7 (.i 0)).gi time rs rs.length else [])) := by
  obtain ⟨r0, r1, r2, r3, r4, r5, ev, d, rfl, hd⟩ := hs.cells
  rw [← hd]
  clear hd
  obtain ⟨wa, hwa⟩ : ∃ wa, wa = w.alloc (.cells (senCells r0 r1 r2 r3 r4 r5 ev d) 48) := ⟨_, rfl⟩
  have hal : Below w.heap.size w wa := by rw [hwa]; exact (Below.refl _ _).alloc (Nat.le_refl _) _
  have hbox : wa.heap[w.heap.size]? = some (.cells (senCells r0 r1 r2 r3 r4 r5 ev d) 48 (0, 0)) := by rw [hwa]; exact heap_alloc_new w _
  have hlt : w.heap.size < wa.heap.size := (Array.getElem?_eq_some_iff.1 hbox).1
  have hcell : wa.cell? ⟨w.heap.size, 7, none⟩ = some (.int .i64 d) := by rw [cell_of_row _ _ _ _ _ _ hbox]; rfl
  have hS := Lib.hid fun w' => c_ValidSensor (.agg (senCells r0 r1 r2 r3 r4 r5 ev d)) ins w' hs
  have H := Lib.hid ((h.below hal).more hal.size)
  have hF := Lib.hid fun w' (hb : Below wa.heap.size wa w') => c_ValidFeed A c rs w' ((H.out.below hb).more hb.size) hn
  have hal := Lib.hid hal
  have hcell := Lib.hid hcell
  have hlt := Lib.hid hlt
  clear h hs hbox
  obtain ⟨i0, hi0, hz0, hz1, hz2⟩ := info_parts info50
  generalize (feedOK (rs.map (·.t)) && decide (rs.length ≤ 256)) = fb at hF ⊢
  generalize sensB ins = sb at hS ⊢
  cases ht : okTime time <;> cases sb <;> cases fb
  all_goals
    have ht := Lib.hid ht
    go_enter Try.func27, Try.ntmps27
    go_wp2_with fail
    rw [show w.alloc (.cells #[.float .f32 r0, .float .f32 r1, .float .f32 r2, .float .f32 r3, .float .f32 r4, .float .f32 r5, .int .i64 ev, .int .i64 d] 48) = wa from hwa.symm]
    have hwa := Lib.hid hwa
    refine (hS.out _).mono ?_
    rintro e w1 ⟨rfl, h1⟩
    have h1 := Lib.hid h1
  · go_wp2_with (first
      | (go_at_call 65; refine (hF.out _ h1.out).mono ?_; rintro e w2 ⟨rfl, h2⟩; have h1 := Lib.hid (h1.out.trans (h2.mono h1.out.size)); clear h2)
      | (go_at_call 73; refine (c_isTime _ _).mono ?_; rintro e w3 ⟨rfl, rfl⟩; rw [ht.out]))
    go_ret2
    exact ⟨_, rfl, (Grows.lower ⟨World.ownsRow_nil _ _ _ _, h1.out⟩ hal.out)⟩
  · go_wp2_with (first
      | (go_at_call 65; refine (hF.out _ h1.out).mono ?_; rintro e w2 ⟨rfl, h2⟩; have h1 := Lib.hid (h1.out.trans (h2.mono h1.out.size)); clear h2)
      | (go_at_call 73; refine (c_isTime _ _).mono ?_; rintro e w3 ⟨rfl, rfl⟩; rw [ht.out]))
    go_ret2
    exact ⟨_, rfl, (Grows.lower ⟨World.ownsRow_nil _ _ _ _, h1.out⟩ hal.out)⟩
  · go_wp2_with (first
      | (go_at_call 65; refine (hF.out _ h1.out).mono ?_; rintro e w2 ⟨rfl, h2⟩; have h1 := Lib.hid (h1.out.trans (h2.mono h1.out.size)); clear h2)
      | (go_at_call 73; refine (c_isTime _ _).mono ?_; rintro e w3 ⟨rfl, rfl⟩; rw [ht.out]))
    go_ret2
    exact ⟨_, rfl, (Grows.lower ⟨World.ownsRow_nil _ _ _ _, h1.out⟩ hal.out)⟩
  · go_wp2_with (first
      | (go_at_call 65; refine (hF.out _ h1.out).mono ?_; rintro e w2 ⟨rfl, h2⟩; have h1 := Lib.hid (h1.out.trans (h2.mono h1.out.size)); clear h2)
      | (go_at_call 73; refine (c_isTime _ _).mono ?_; rintro e w3 ⟨rfl, rfl⟩; rw [ht.out]))
    go_ret2
    exact ⟨_, rfl, (Grows.lower ⟨World.ownsRow_nil _ _ _ _, h1.out⟩ hal.out)⟩
  · go_wp2_with (first
      | (go_at_call 65; refine (hF.out _ h1.out).mono ?_; rintro e w2 ⟨rfl, h2⟩; have h1 := Lib.hid (h1.out.trans (h2.mono h1.out.size)); clear h2)
      | (go_at_call 73; refine (c_isTime _ _).mono ?_; rintro e w3 ⟨rfl, rfl⟩; rw [ht.out]))
    go_ret2
    exact ⟨_, rfl, (Grows.lower ⟨World.ownsRow_nil _ _ _ _, h1.out⟩ hal.out)⟩
  · go_wp2_with (first
      | (go_at_call 65; refine (hF.out _ h1.out).mono ?_; rintro e w2 ⟨rfl, h2⟩; have h1 := Lib.hid (h1.out.trans (h2.mono h1.out.size)); clear h2)
      | (go_at_call 73; refine (c_isTime _ _).mono ?_; rintro e w3 ⟨rfl, rfl⟩; rw [ht.out]))
    go_ret2
    exact ⟨_, rfl, (Grows.lower ⟨World.ownsRow_nil _ _ _ _, h1.out⟩ hal.out)⟩
  · go_wp2_with (first
      | (go_at_call 65; refine (hF.out _ h1.out).mono ?_; rintro e w2 ⟨rfl, h2⟩; have h1 := Lib.hid (h1.out.trans (h2.mono h1.out.size)); clear h2)
      | (go_at_call 73; refine (c_isTime _ _).mono ?_; rintro e w3 ⟨rfl, rfl⟩; rw [ht.out]))
    go_ret2
    exact ⟨_, rfl, (Grows.lower ⟨World.ownsRow_nil _ _ _ _, h1.out⟩ hal.out)⟩
  · go_wp2_with (first
      | (go_at_call 65; refine (hF.out _ h1.out).mono ?_; rintro e w2 ⟨rfl, h2⟩; have h1 := Lib.hid (h1.out.trans (h2.mono h1.out.size)); clear h2)
      | (go_at_call 73; refine (c_isTime _ _).mono ?_; rintro e w3 ⟨rfl, rfl⟩; rw [ht.out]))
    go_loopw [8, 24] (fun v i wr => ∃ (k : Nat) (ao : Option Addr) (cv : Nat), k ≤ rs.length ∧ i = .int .i64 k ∧ v = .slice ao (arrTo d time rs k).length cv ∧ Hid (Grows wa wr v (arrTo d time rs k))) (fun _ i _ => rs.length - (intOf i).toNat)
    case atStart => exact ⟨0, _, _, Nat.zero_le _, rfl, rfl, Lib.hid ⟨World.ownsRow_nil _ _ _ _, h1.out⟩⟩
    case round =>
      obtain ⟨k, ao, cv, hk, rfl, rfl, hg⟩ := hrel
      by_cases hlt2 : k < rs.length
      · obtain ⟨ad, rfl, hbl, hc1, hc2, hc3, hc4⟩ := (H.out.below hg.out.below) k rs[k] (List.getElem?_eq_getElem hlt2)
        have hrk : Hid (rs[k]? = some rs[k]) := Lib.hid (List.getElem?_eq_getElem hlt2)
        generalize rs[k] = r at hc1 hc2 hc3 hc4 hrk
        have hdel : wr.cell? ⟨w.heap.size, 7, none⟩ = some (.int .i64 d) := by rw [hg.out.below.cell (p := ⟨w.heap.size, 7, none⟩) hlt.out]; exact hcell.out
        have hltw : w.heap.size < wr.heap.size := by have := hg.out.below.size; have := hlt.out; omega
        have hlt' : (k : Int) < (rs.length : Int) := by omega
        have hlen := arrTo_len d time rs k
        have hsize := hg.out.below.size
        have hown := Lib.hid hg.out.own
        generalize hks : arrTo d time rs k = ks at hown hlen hg ⊢
        have hks := Lib.hid hks
        cases hbit : there_ d time r with
        | true =>
          have hb1 : IntKind.i64.wrap (r.t + d) ≤ time := by rw [IntWalk.i64_left]; exact of_decide_eq_true hbit
          have hb2 : decide (wrap64 (r.t + d) ≤ time) = true := hbit
          have hb3 : decide (IntKind.i64.wrap (r.t + d) ≤ time) = true := decide_eq_true hb1
          have hbit := Lib.hid hbit
          go_wp2_with (first
            | (at_builtin; go_loud (refine wpList_append_own _ rfl _ _ 28 rfl wa.heap.size 34 i0 (.agg #[.int .i64 0, .int .i16 0, .int .i16 0, .int .i16 0]) 4 16 Try.underlying28 hi0 hz0 hz1 hz2 rfl (by decide) _ _ _ rfl ((hown.out.alloc _).alloc _) ⟨wr.heap.size + 1, 0, none⟩ 1 1 [.int .i64 r.t, .int .i16 r.a, .int .i16 r.b, .int .i16 r.c] rfl rfl ?c1 (cells_one r) (by unfold maxLen; omega) (by omega) (by simp; omega) ?_); rotate_left; intro v' w2 hown1 hgrow _))
          case c1 =>
            intro j u hu
            have hs : (wr.alloc (.cells r.cells 34)).heap.size = wr.heap.size + 1 := by simp
            have := World.news_of_block (heap_alloc_new (wr.alloc (.cells r.cells 34)) (.cells r.cells 34)) j u hu
            rw [hs] at this
            exact this
          have hg1 : Grows wa (wr.alloc (.cells r.cells 34)) (.slice ao ks.length cv) ks := ⟨hg.out.own.alloc _, hg.out.below.alloc hg.out.below.size _⟩
          have hg2 := Lib.hid (hg1.more (r := r) hown1 hgrow)
          clear hg1
          go_round
          case rel =>
            obtain ⟨ao', cv', hv⟩ := hg2.out.form
            have e := arr_true hbit.out hrk.out
            rw [hks.out] at e
            exact ⟨k + 1, ao', cv', by omega, by go_num, by rw [e]; exact hv, by rw [e]; exact hg2⟩
          case measure => simp [intOf]; omega
        | false =>
          have hb1 : ¬ IntKind.i64.wrap (r.t + d) ≤ time := by rw [IntWalk.i64_left]; exact of_decide_eq_false hbit
          have hb2 : decide (wrap64 (r.t + d) ≤ time) = false := hbit
          have hb3 : decide (IntKind.i64.wrap (r.t + d) ≤ time) = false := decide_eq_false hb1
          have hbit := Lib.hid hbit
          go_wp2_with fail
          go_round
          case rel =>
            have e := arr_false hbit.out hrk.out
            rw [hks.out] at e
            exact ⟨k + 1, ao, cv, by omega, by go_num, by rw [e], by rw [e]; exact Lib.hid ⟨hown.out.alloc _, hg.out.below.alloc hg.out.below.size _⟩⟩
          case measure => simp [intOf]; omega
      · have e : k = rs.length := by omega
        subst e
        go_wp2
        go_ret2
        exact ⟨_, rfl, hg.out.lower hal.out⟩
end Go.Proofs.Ytpfihfdbkoclnab
