/- What the body-less functions of package math give, in this translation. No condition. -/
import Derived.Test.YtejljfejajckoaaRows
import Derived.Test.YtejljfejajckoaaFw
namespace Go.Proofs.Ytejljfejajckoaa
open Go Go.RowKit
set_option linter.unusedVariables false

@[go_sem] theorem ext_f32from (b : Int) (w : World) : (callFunc 169 #[.int .u32 b]).run Try.prog w = .ok (.value (.float .f32 b.toNat)) w := by
  rw [run_callFunc_extern (e := Extern.MathFloatBits.float32frombits) Try.func169 (by kernel_rfl) (by kernel_rfl) (by kernel_rfl) (by kernel_rfl)]; rfl
@[go_sem] theorem ext_f64bits (b : Nat) (w : World) : (callFunc 177 #[.float .f64 b]).run Try.prog w = .ok (.value (.int .u64 b)) w := by
  rw [run_callFunc_extern (e := Extern.MathFloatBits.float64bits) Try.func177 (by kernel_rfl) (by kernel_rfl) (by kernel_rfl) (by kernel_rfl)]; rfl
@[go_sem] theorem ext_f64from (b : Int) (w : World) : (callFunc 176 #[.int .u64 b]).run Try.prog w = .ok (.value (.float .f64 b.toNat)) w := by
  rw [run_callFunc_extern (e := Extern.MathFloatBits.float64frombits) Try.func176 (by kernel_rfl) (by kernel_rfl) (by kernel_rfl) (by kernel_rfl)]; rfl
end Go.Proofs.Ytejljfejajckoaa
