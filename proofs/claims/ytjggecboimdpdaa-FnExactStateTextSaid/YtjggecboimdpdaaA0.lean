/- What the body-less functions of package math give, in this translation. No condition. -/
import Derived.Test.YtjggecboimdpdaaRows
import Derived.Test.YtjggecboimdpdaaFw
namespace Go.Proofs.Ytjggecboimdpdaa
open Go Go.RowKit
set_option linter.unusedVariables false

@[go_sem] theorem ext_f32bits (b : Nat) (w : World) : (callFunc 68 #[.float .f32 b]).run Try.prog w = .ok (.value (.int .u32 b)) w := by
  rw [run_callFunc_extern (e := Extern.MathFloatBits.float32bits) Try.func68 (by kernel_rfl) (by kernel_rfl) (by kernel_rfl) (by kernel_rfl)]; rfl
@[go_sem] theorem ext_f64bits (b : Nat) (w : World) : (callFunc 85 #[.float .f64 b]).run Try.prog w = .ok (.value (.int .u64 b)) w := by
  rw [run_callFunc_extern (e := Extern.MathFloatBits.float64bits) Try.func85 (by kernel_rfl) (by kernel_rfl) (by kernel_rfl) (by kernel_rfl)]; rfl
@[go_sem] theorem ext_f64from (b : Int) (w : World) : (callFunc 84 #[.int .u64 b]).run Try.prog w = .ok (.value (.float .f64 b.toNat)) w := by
  rw [run_callFunc_extern (e := Extern.MathFloatBits.float64frombits) Try.func84 (by kernel_rfl) (by kernel_rfl) (by kernel_rfl) (by kernel_rfl)]; rfl
end Go.Proofs.Ytjggecboimdpdaa
