/- The program's decimal numbers, by the library's FormatInt. Condition: the library's table of powers of ten lies in memory as its text lays it. -/
import Derived.Test.YtpccnejchbachaaDoorDa
import Derived.Test.YtpccnejchbachaaDoorSh
import Derived.Shelf.Strconv.Itoa4
namespace Go.Proofs.YtpccnejchbachaaDoor
open Go Go.ChangeShapes Go.WideShapes Go.RowKit
set_option linter.unusedVariables false
set_option linter.unusedSimpArgs false

/-- The library's table. -/
def PowT (w : World) : Prop := Lib.TabIs Tryd.prog w "internal/strconv.uint64pow10" .u64 Lib.pow10Tab

theorem PowT.on {w w' : World} (h : PowT w) (hs : Stays w w') : PowT w' := by
  have hg : (Tryd.prog.globalNamed "internal/strconv.uint64pow10").isSome = true := by kernel_rfl
  obtain ⟨g, hgn⟩ := Option.isSome_iff_exists.1 hg
  unfold PowT Lib.TabIs World.var? at h ⊢
  rw [hgn] at h ⊢
  simp only [Option.bind_some] at h ⊢
  cases hb : w.heap[g]? with
  | none => rw [hb] at h; cases h
  | some o =>
    rw [hs.heap (Array.getElem?_eq_some_iff.1 hb).1 hb]
    rw [hb] at h
    exact h

theorem grow_stays (w : World) (k : Nat) (os : Array Obj) : Stays w (Sort.grow (w.drewN k) os) :=
  ⟨rfl, rfl, rfl, by rw [Sort.size_grow]; exact Nat.le_add_right _ _, fun i hi => Sort.heap_grow_old (w.drewN k) os hi⟩

def itoaS (n : Int) : ByteArray := ⟨(Lib.itoa n).toArray⟩
theorem itoaS_nonneg (n : Nat) : itoaS (n : Int) = decS n := by unfold itoaS decS; rw [Lib.itoa_nonneg]
theorem itoaS_neg (n : Nat) (h : 1 ≤ n) : itoaS (-(n : Int)) = ⟨#[45]⟩ ++ decS n := by
  unfold itoaS decS
  rw [Lib.itoa_neg n h]
  apply ByteArray.ext
  simp
theorem itoaS_len (n : Int) (h0 : -9223372036854775808 ≤ n) (h1 : n ≤ 9223372036854775807) : (itoaS n).size ≤ 21 := by
  show (Lib.itoa n).toArray.size ≤ 21
  rw [List.size_toArray]
  exact Lib.itoa_length_le n h0 h1

set_option maxRecDepth 100000 in
theorem c_decimal (n : Int) (w : World) (h0 : -9223372036854775808 ≤ n) (h1 : n ≤ 9223372036854775807) (hT : PowT w) :
    Calls Tryd.prog 24 #[.int .i64 n] w fun e w' => e = .returned (.string (itoaS n)) ∧ Stays w w' := by
  have k := Lib.hid (Any.strconv_FormatInt_10 laysM173 n h0 h1 w hT)
  clear hT h0 h1
  go_enter Tryd.func24, Tryd.ntmps24
  go_wp2_with fail
  refine k.out.mono ?_
  rintro e w' ⟨rfl, kk, os, rfl⟩
  have hs := Lib.hid (grow_stays w kk os)
  go_wp2
  go_ret
  exact ⟨rfl, hs.out⟩
end Go.Proofs.YtpccnejchbachaaDoor
