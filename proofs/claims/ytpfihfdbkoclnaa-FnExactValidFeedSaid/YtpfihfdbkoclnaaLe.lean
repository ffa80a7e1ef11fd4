/- The law on valid feeds, by the functions' contracts. No condition. -/
import Derived.Test.YtpfihfdbkoclnaaLd
namespace Go.Proofs.Ytpfihfdbkoclnaa
open Go Go.RowKit
set_option linter.unusedVariables false

theorem Feed.more {w : World} {B B' : Nat} {A : Option Addr} {rs : List Rd} (h : Feed w B A rs) (hB : B ≤ B') : Feed w B' A rs := fun i r hr => by
  obtain ⟨ad, e, hlt, h⟩ := h i r hr
  exact ⟨ad, e, by omega, h⟩

theorem below_drewN (w : World) (k : Nat) : Below w.heap.size w (w.drewN k) := (Stays.refl w).drewN k

theorem c_specValidFeed (A : Option Addr) (c : Nat) (rs : List Rd) (w : World) (h : Times w A (rs.map (·.t))) (hn : rs.length ≤ 1048576) :
    Calls Try.prog 41 #[.slice A rs.length c] w fun e w' => e = .returned (.bool (feedOK (rs.map (·.t)) && decide (rs.length ≤ 256))) ∧ Below w.heap.size w w' := by
  have key := c_l04Feed A c (rs.map (·.t)) w h (by simpa using hn)
  rw [List.length_map] at key
  generalize (feedOK (rs.map (·.t)) && decide (rs.length ≤ 256)) = b at key ⊢
  have key := Lib.hid key
  clear h
  go_enter Try.func41, Try.ntmps41
  go_wp2_with fail
  refine key.out.mono ?_
  rintro e w' ⟨rfl, m, rfl⟩
  go_wp2
  go_ret
  exact ⟨rfl, below_drewN w m⟩

set_option maxHeartbeats 400000 in
theorem c_law (A : Option Addr) (c : Nat) (rs : List Rd) (w : World) (h : Feed w w.heap.size A rs) (hn : rs.length ≤ 9223372036854775807) :
    Calls Try.prog 11 #[.slice A rs.length c] w fun e w' => e = .returned (.bool true) ∧ Below w.heap.size w w' := by
  have H := Lib.hid h
  clear h
  go_enter Try.func11, Try.ntmps11
  go_wp2_with fail
  refine (c_szReadingS A c rs.length _ w hn (by omega) (by omega)).mono ?_
  rintro e w' ⟨rfl, rfl⟩
  by_cases hl : rs.length ≤ 1048576
  · have hl1 : ¬ ((1048576 : Int) - (rs.length : Nat) < 0) := by omega
    rw [if_neg hl1]
    go_wp2_with fail
    refine (c_toReadingS A c rs w H.out hl).mono ?_
    rintro e w1 ⟨rfl, h1⟩
    have h1 := Lib.hid h1
    go_wp2_with fail
    refine (c_specValidFeed _ _ rs w1 h1.out.feed.times hl).mono ?_
    rintro e w2 ⟨rfl, h2⟩
    have hB2 : Hid (Below w.heap.size w w2) := Lib.hid (h1.out.below.trans (h2.mono h1.out.below.size))
    clear h2
    generalize hb : (feedOK (rs.map (·.t)) && decide (rs.length ≤ 256)) = b
    have hb := Lib.hid hb
    go_wp2_with fail
    refine (c_toReadingS A c rs w2 ((H.out.below hB2.out).more hB2.out.size) hl).mono ?_
    rintro e w3 ⟨rfl, h3⟩
    have h3 := Lib.hid h3
    have hB3 : Hid (Below w.heap.size w w3) := Lib.hid (hB2.out.trans (h3.out.below.mono hB2.out.size))
    go_wp2_with fail
    refine (c_ValidFeed _ _ rs w3 h3.out.feed hl).mono ?_
    rintro e w4 ⟨rfl, h4⟩
    have h4 := Lib.hid h4
    have hB4 : Hid (Below w.heap.size w w4) := Lib.hid (hB3.out.trans (h4.out.mono hB3.out.size))
    rw [hb.out]
    cases b
    all_goals
      go_wp2_with fail
      refine (c_toReadingS A c rs w4 ((H.out.below hB4.out).more hB4.out.size) hl).mono ?_
      rintro e w5 ⟨rfl, h5⟩
      have h5 := Lib.hid h5
      have hB5 : Hid (Below w.heap.size w w5) := Lib.hid (hB4.out.trans (h5.out.below.mono hB4.out.size))
      have hx : Hid (Feed w5 w5.heap.size (some ⟨w2.heap.size, 0, none⟩) rs) := Lib.hid (((h3.out.feed.below h4.out).more h4.out.size |>.below h5.out.below).more h5.out.below.size)
      go_wp2_with fail
      refine (c_eqReadingS _ _ _ _ rs w5 hx.out h5.out.feed hl).mono ?_
      rintro e w6 ⟨rfl, h6⟩
      have hB6 : Hid (Below w.heap.size w w6) := Lib.hid (hB5.out.trans (h6.mono hB5.out.size))
      clear h6
      go_wp2
      go_ret
      exact ⟨rfl, hB6.out⟩
  · have hl1 : (1048576 : Int) - (rs.length : Nat) < 0 := by omega
    rw [if_pos hl1]
    go_wp2
    go_ret
    exact ⟨rfl, Below.refl _ _⟩
end Go.Proofs.Ytpfihfdbkoclnaa
