/- Readings that have arrived. No condition. -/
import Derived.Test.YtmcbeaihjdnelaaLh
import Derived.Test.YtmcbeaihjdnelaaLs
namespace Go.Proofs.Ytmcbeaihjdnelaa
open Go Go.RowKit
set_option linter.unusedVariables false

def there_ (d time : Int) (r : Rd) : Bool := decide (wrap64 (r.t + d) ≤ time)

def arrTo (d time : Int) (rs : List Rd) : Nat → List Rd
  | 0 => []
  | k + 1 => match rs[k]? with
    | some r => if there_ d time r then arrTo d time rs k ++ [r] else arrTo d time rs k
    | none => arrTo d time rs k

theorem arrTo_len (d time : Int) (rs : List Rd) : ∀ k, (arrTo d time rs k).length ≤ k
  | 0 => Nat.le_refl _
  | k + 1 => by
    unfold arrTo
    have := arrTo_len d time rs k
    split
    · split
      · rw [List.length_append]; simp; omega
      · omega
    · omega

theorem arr_true {d time : Int} {rs : List Rd} {k : Nat} {r : Rd} (h : there_ d time r = true) (hr : rs[k]? = some r) : arrTo d time rs (k + 1) = arrTo d time rs k ++ [r] := by
  show (match rs[k]? with
    | some r => if there_ d time r then arrTo d time rs k ++ [r] else arrTo d time rs k
    | none => arrTo d time rs k) = _
  rw [hr]; simp only; rw [if_pos h]
theorem arr_false {d time : Int} {rs : List Rd} {k : Nat} {r : Rd} (h : there_ d time r = false) (hr : rs[k]? = some r) : arrTo d time rs (k + 1) = arrTo d time rs k := by
  show (match rs[k]? with
    | some r => if there_ d time r then arrTo d time rs k ++ [r] else arrTo d time rs k
    | none => arrTo d time rs k) = _
  rw [hr]; simp only; rw [if_neg (by rw [h]; exact Bool.false_ne_true)]

theorem KMs_cons {k : Kd} {ks : List Kd} {vs : List Value} {xs : List NV} (h : KMs (k :: ks) vs xs) : ∃ v vs' x xs', vs = v :: vs' ∧ xs = x :: xs' ∧ KM k v x ∧ KMs ks vs' xs' := by
  match vs, xs, h with
  | v :: vs, x :: xs, ⟨h1, h2⟩ => exact ⟨v, vs, x, xs, rfl, rfl, h1, h2⟩

theorem KMs_none {vs : List Value} {xs : List NV} (h : KMs [] vs xs) : vs = [] ∧ xs = [] := by
  match vs, xs, h with
  | [], [], _ => exact ⟨rfl, rfl⟩

/-- A sensor, cell by cell. -/
theorem Sen.cells {v : Value} {ins : List NV} (h : Sen v ins) : ∃ r0 r1 r2 r3 r4 r5 : Nat, ∃ e d : Int, v = .agg #[.float .f32 r0, .float .f32 r1, .float .f32 r2, .float .f32 r3, .float .f32 r4, .float .f32 r5, .int .i64 e, .int .i64 d] ∧ d = (ins.getD 7 (.i 0)).gi := by
  obtain ⟨cs, rfl, hk⟩ := h
  obtain ⟨l⟩ := cs
  obtain ⟨v0, l0, x0, m0, e0, f0, ⟨r0, k0, _⟩, hk⟩ := KMs_cons hk
  obtain ⟨v1, l1, x1, m1, e1, f1, ⟨r1, k1, _⟩, hk⟩ := KMs_cons hk
  obtain ⟨v2, l2, x2, m2, e2, f2, ⟨r2, k2, _⟩, hk⟩ := KMs_cons hk
  obtain ⟨v3, l3, x3, m3, e3, f3, ⟨r3, k3, _⟩, hk⟩ := KMs_cons hk
  obtain ⟨v4, l4, x4, m4, e4, f4, ⟨r4, k4, _⟩, hk⟩ := KMs_cons hk
  obtain ⟨v5, l5, x5, m5, e5, f5, ⟨r5, k5, _⟩, hk⟩ := KMs_cons hk
  obtain ⟨v6, l6, x6, m6, e6, f6, k6, hk⟩ := KMs_cons hk
  obtain ⟨v7, l7, x7, m7, e7, f7, k7, hk⟩ := KMs_cons hk
  obtain ⟨e8, f8⟩ := KMs_none hk
  have k6 : v6 = .int .i64 x6.gi := k6
  have k7 : v7 = .int .i64 x7.gi := k7
  have e0 : l = v0 :: l0 := e0
  subst e8 e7 e6 e5 e4 e3 e2 e1 e0 f8 f7 f6 f5 f4 f3 f2 f1 f0 k0 k1 k2 k3 k4 k5 k6 k7
  exact ⟨r0, r1, r2, r3, r4, r5, x6.gi, x7.gi, rfl, rfl⟩

def codeOf (sb fb tb : Bool) : Int := if sb && fb then (if tb then 0 else 2) else 1

set_option maxRecDepth 100000 in
theorem c_l04Both (p c : Nat) (cs : Array Value) (ins : List NV) (A : Option Addr) (rs : List Rd) (time : Int) (w : World) (hg : w.heap[p]? = some (.cells cs 32 (0, 0))) (hs : Sen (.agg cs) ins) (h : Feed w w.heap.size A rs) (hn : rs.length ≤ 1048576) :
    Calls Try.prog 84 #[.pointer (some ⟨p, 0, none⟩), .slice A rs.length c, .int .i64 time] w fun e w' => e = .returned (.int .i64 (codeOf (sensB ins) (feedOK (rs.map (·.t)) && decide (rs.length ≤ 256)) (okTime time))) ∧ Below w.heap.size w w' := by
  have hF : ∀ w', Below w.heap.size w w' → Calls Try.prog 53 #[.slice A rs.length c] w' fun e w2 => e = .returned (.bool (feedOK (rs.map (·.t)) && decide (rs.length ≤ 256))) ∧ Below w'.heap.size w' w2 := by
    intro w' hb
    have := c_l04Feed A c (rs.map (·.t)) w' (h.below hb).times (by simpa using hn)
    rw [List.length_map] at this
    refine this.mono ?_
    rintro e w2 ⟨rfl, m, rfl⟩
    exact ⟨rfl, below_drewN w' m⟩
  have hF := Lib.hid hF
  have hS := Lib.hid (c_l04Sensor p cs ins w hg hs)
  clear h hg hs
  generalize (feedOK (rs.map (·.t)) && decide (rs.length ≤ 256)) = fb at hF ⊢
  generalize sensB ins = sb at hS ⊢
  cases ht : okTime time <;> cases sb <;> cases fb
  all_goals
    have ht := Lib.hid ht
    go_enter Try.func84, Try.ntmps84
    go_wp2_with fail
    refine hS.out.mono ?_
    rintro e w1 ⟨rfl, h1⟩
    have hF1 := Lib.hid (hF.out w1 h1)
    have h1 := Lib.hid h1
    go_wp2_with (first
      | (go_at_call 53; refine hF1.out.mono ?_; rintro e w2 ⟨rfl, h2⟩; have h2 := Lib.hid (h1.out.trans (h2.mono h1.out.size)))
      | (go_at_call 89; refine (c_l04Time _ _).mono ?_; rintro e w3 ⟨rfl, rfl⟩; rw [ht.out]))
    go_ret
    first
      | exact ⟨rfl, h2.out⟩
      | exact ⟨rfl, h1.out⟩

theorem Grows.lower {w w1 wr : World} {v : Value} {xs : List Rd} (h : Grows w1 wr v xs) (hb : Below w.heap.size w w1) : Grows w wr v xs := by
  refine ⟨⟨h.own.1, ?_⟩, hb.trans (h.below.mono hb.size)⟩
  rcases h.own.2 with h0 | ⟨g, cap, cur, e, hbase, rest⟩
  · exact Or.inl h0
  · exact Or.inr ⟨g, cap, cur, e, Nat.le_trans hb.size hbase, rest⟩

abbrev senCells (r0 r1 r2 r3 r4 r5 : Nat) (ev d : Int) : Array Value := #[.float .f32 r0, .float .f32 r1, .float .f32 r2, .float .f32 r3, .float .f32 r4, .float .f32 r5, .int .i64 ev, .int .i64 d]

end Go.Proofs.Ytmcbeaihjdnelaa
