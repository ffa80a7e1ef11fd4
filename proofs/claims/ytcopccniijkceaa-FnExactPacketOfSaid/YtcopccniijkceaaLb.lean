/- Feeds: whether a feed is valid, as the program says it. No condition. -/
import Derived.Test.YtcopccniijkceaaLa
namespace Go.Proofs.Ytcopccniijkceaa
open Go Go.RowKit
set_option linter.unusedVariables false

structure Rd where
  t : Int
  a : Int
  b : Int
  c : Int

def Rd.cells (r : Rd) : Array Value := #[.int .i64 r.t, .int .i16 r.a, .int .i16 r.b, .int .i16 r.c]

/-- A feed that lies in memory below a block. -/
def Feed (w : World) (B : Nat) (A : Option Addr) (rs : List Rd) : Prop :=
  ∀ i r, rs[i]? = some r → ∃ ad, A = some ad ∧ ad.block < B ∧ w.cell? (ad.add (i * 4)) = some (.int .i64 r.t) ∧ w.cell? ⟨(ad.add (i * 4)).block, (ad.add (i * 4)).off + 1, none⟩ = some (.int .i16 r.a) ∧
    w.cell? ⟨(ad.add (i * 4)).block, (ad.add (i * 4)).off + 2, none⟩ = some (.int .i16 r.b) ∧ w.cell? ⟨(ad.add (i * 4)).block, (ad.add (i * 4)).off + 3, none⟩ = some (.int .i16 r.c)

theorem Feed.below {w w' : World} {B : Nat} {A : Option Addr} {rs : List Rd} (h : Feed w B A rs) (hb : Below B w w') : Feed w' B A rs := fun i r hr => by
  obtain ⟨ad, e, hlt, h1, h2, h3, h4⟩ := h i r hr
  have k : ∀ p : Addr, p.block = (ad.add (i * 4)).block → w'.cell? p = w.cell? p := fun p hp => hb.cell (by rw [hp, block_add]; exact hlt)
  exact ⟨ad, e, hlt, by rw [k _ rfl]; exact h1, (k ⟨_, _, none⟩ rfl).trans h2, (k ⟨_, _, none⟩ rfl).trans h3, (k ⟨_, _, none⟩ rfl).trans h4⟩

theorem Feed.times {w : World} {B : Nat} {A : Option Addr} {rs : List Rd} (h : Feed w B A rs) : Times w A (rs.map (·.t)) := fun i t ht => by
  rw [List.getElem?_map] at ht
  cases e : rs[i]? with
  | none => rw [e] at ht; cases ht
  | some r =>
    rw [e] at ht
    cases ht
    obtain ⟨ad, e, hlt, h1, _⟩ := h i r e
    exact ⟨ad, e, h1⟩

def lastOf (ts : List Int) (k : Nat) : Int := if k = 0 then -1 else ts.getD (k - 1) 0

theorem good_iff {ts : List Int} {k : Nat} (h : k < ts.length) : good ts k ↔ okTime ts[k] = true ∧ lastOf ts k < ts[k] := by
  unfold good lastOf
  rw [List.getElem?_eq_getElem h]
  by_cases h0 : k = 0
  · subst h0
    simp only [if_true]
    constructor
    · intro g
      have := (g _ rfl).1
      refine ⟨this, ?_⟩
      simp [okTime] at this
      omega
    · rintro ⟨g, _⟩ t e
      cases e
      exact ⟨g, fun p h => absurd h (by omega)⟩
  · have hk : k - 1 < ts.length := by omega
    rw [if_neg h0, List.getD_eq_getElem?_getD, List.getElem?_eq_getElem hk]
    constructor
    · intro g
      exact ⟨(g _ rfl).1, (g _ rfl).2 _ (by omega) rfl⟩
    · rintro ⟨g1, g2⟩ t e
      cases e
      exact ⟨g1, fun p _ e => by cases e; exact g2⟩

theorem lastOf_next {ts : List Int} {k : Nat} (h : k < ts.length) : lastOf ts (k + 1) = ts[k] := by
  unfold lastOf
  rw [if_neg (by omega), Nat.add_sub_cancel, List.getD_eq_getElem?_getD, List.getElem?_eq_getElem h]
  rfl

set_option maxHeartbeats 400000 in
theorem c_ValidFeed (A : Option Addr) (c : Nat) (rs : List Rd) (w : World) (h : Feed w w.heap.size A rs) (hn : rs.length ≤ 1048576) :
    Calls Try.prog 61 #[.slice A rs.length c] w fun e w' => e = .returned (.bool (feedOK (rs.map (·.t)) && decide (rs.length ≤ 256))) ∧ Below w.heap.size w w' := by
  have H := Lib.hid h
  clear h
  generalize hts : rs.map (·.t) = ts
  have hl : ts.length = rs.length := by rw [← hts, List.length_map]
  have htk : ∀ k (h : k < rs.length), ts[k]'(by omega) = rs[k].t := fun k h => by subst hts; simp
  have htk := Lib.hid htk
  have hts := Lib.hid hts
  have hl := Lib.hid hl
  go_enter Try.func61, Try.ntmps61
  by_cases h256 : rs.length ≤ 256
  · have h256' : ((rs.length : Nat) : Int) ≤ 256 := by omega
    go_wp2
    go_loopw [3, 11] (fun l i wr => ∃ k : Nat, k ≤ rs.length ∧ i = .int .i64 k ∧ l = .int .i64 (lastOf ts k) ∧ Hid (Below w.heap.size w wr) ∧ Hid (∀ j, j < k → good ts j)) (fun _ i _ => rs.length - (intOf i).toNat)
    case atStart => exact ⟨0, Nat.zero_le _, rfl, rfl, Lib.hid (Below.refl _ _), Lib.hid fun j hj => by omega⟩
    case round =>
      obtain ⟨k, hk, rfl, rfl, hb, hg⟩ := hrel
      by_cases hlt : k < rs.length
      · obtain ⟨ad, rfl, hbl, hc1, hc2, hc3, hc4⟩ := (H.out.below hb.out) k rs[k] (List.getElem?_eq_getElem hlt)
        have hlk : k < ts.length := by have := hl.out; omega
        have hgd : good ts k ↔ okTime rs[k].t = true ∧ lastOf ts k < rs[k].t := by rw [← htk.out k hlt]; exact good_iff hlk
        have hnx : lastOf ts (k + 1) = rs[k].t := by rw [← htk.out k hlt]; exact lastOf_next hlk
        have hgd := Lib.hid hgd
        have hnx := Lib.hid hnx
        have bad : ¬ good ts k → Ending.returned (.bool false) = .returned (.bool (feedOK ts && decide (rs.length ≤ 256))) := fun hb => by
          have : feedOK ts = false := Bool.eq_false_iff.2 fun h => hb (feedOK_iff.1 h k)
          rw [this]; rfl
        have bad := Lib.hid bad
        have next : good ts k → Hid (∀ j, j < k + 1 → good ts j) := fun hb => Lib.hid fun j hj => by
          by_cases e : j = k
          · subst e; exact hb
          · exact hg.out j (by omega)
        have next := Lib.hid next
        generalize rs[k] = r at hc1 hc2 hc3 hc4 hgd hnx
        generalize lastOf ts k = lst at hgd
        have hlt' : (k : Int) < (rs.length : Int) := by omega
        by_cases ht : okTime r.t = true
        · by_cases hp : lst < r.t
          · go_wp2_with (go_at_call 103; refine (c_isTime _ _).mono ?_; rintro e w' ⟨rfl, rfl⟩)
            go_roundw
            case rel => exact ⟨k + 1, by omega, by go_num, by rw [hnx.out], Lib.hid (hb.out.alloc hb.out.size _), next.out (hgd.out.2 ⟨ht, hp⟩)⟩
            case measure => simp [intOf]; omega
          · go_wp2_with (go_at_call 103; refine (c_isTime _ _).mono ?_; rintro e w' ⟨rfl, rfl⟩)
            go_ret
            exact ⟨bad.out fun h => absurd (hgd.out.1 h).2 (by omega), hb.out.alloc hb.out.size _⟩
        · go_wp2_with (go_at_call 103; refine (c_isTime _ _).mono ?_; rintro e w' ⟨rfl, rfl⟩)
          go_ret
          exact ⟨bad.out fun h => ht (hgd.out.1 h).1, hb.out.alloc hb.out.size _⟩
      · have fin : feedOK ts = true := by
          refine feedOK_iff.2 fun j => ?_
          by_cases hj : j < k
          · exact hg.out j hj
          · intro t ht
            rw [List.getElem?_eq_none (by have := hl.out; omega)] at ht
            cases ht
        have fin := Lib.hid fin
        go_wp2
        go_ret
        exact ⟨ret_b (by rw [fin.out, Bool.true_and, decide_eq_true h256]), hb.out⟩
  · have h256' : ¬ ((rs.length : Nat) : Int) ≤ 256 := by omega
    go_wp2
    go_ret
    exact ⟨ret_b (by first | rfl | simp), Below.refl _ _⟩
end Go.Proofs.Ytcopccniijkceaa
