/- The tables of the seat's types and functions, as the symbolic walk reads them. No condition. -/
import Derived.Test.YtefpnehdgbollaaA0
import Derived.Test.YtefpnehdgbollaaY8
namespace Go.Proofs.Ytefpnehdgbollaa
open Go Go.RowKit
set_option linter.unusedVariables false

def tyOK (t : TypeId) (i : TyI) : Prop := Try.prog.underlying t = some i.desc ∧ (Try.prog.info? t).map (·.size) = some i.size ∧ (Try.prog.info? t).bind (·.zero) = some i.zero
noncomputable def ttab : List (TypeId × TyI) := [
  (1, ⟨TypeDesc.func #[] #[] false, 1, (.nilFunc)⟩),
  (2, ⟨TypeDesc.int IntKind.i64, 1, (.int .i64 0)⟩),
  (3, ⟨TypeDesc.int IntKind.i64, 1, (.int .i64 0)⟩),
  (4, ⟨TypeDesc.bool, 1, (.bool false)⟩),
  (5, ⟨TypeDesc.int IntKind.u8, 1, (.int .u8 0)⟩),
  (6, ⟨TypeDesc.int IntKind.u8, 1, (.int .u8 0)⟩),
  (12, ⟨TypeDesc.int IntKind.u64, 1, (.int .u64 0)⟩),
  (15, ⟨TypeDesc.pointer 80, 1, (.pointer none)⟩),
  (16, ⟨TypeDesc.pointer 83, 1, (.pointer none)⟩),
  (17, ⟨TypeDesc.pointer 92, 1, (.pointer none)⟩),
  (20, ⟨TypeDesc.interface #[], 1, (.nilIface)⟩),
  (21, ⟨TypeDesc.int IntKind.i32, 1, (.int .i32 0)⟩),
  (22, ⟨TypeDesc.float FloatKind.f32, 1, (.float .f32 0)⟩),
  (23, ⟨TypeDesc.array 4 22, 4, (.agg #[.float .f32 0, .float .f32 0, .float .f32 0, .float .f32 0])⟩),
  (24, ⟨TypeDesc.array 4 22, 4, (.agg #[.float .f32 0, .float .f32 0, .float .f32 0, .float .f32 0])⟩),
  (25, ⟨TypeDesc.func #[] #[24] false, 1, (.nilFunc)⟩),
  (26, ⟨TypeDesc.func #[24, 24] #[4] false, 1, (.nilFunc)⟩),
  (27, ⟨TypeDesc.func #[] #[4] false, 1, (.nilFunc)⟩),
  (28, ⟨TypeDesc.func #[24] #[4] false, 1, (.nilFunc)⟩),
  (29, ⟨TypeDesc.func #[23] #[24] false, 1, (.nilFunc)⟩),
  (30, ⟨TypeDesc.func #[23] #[4] false, 1, (.nilFunc)⟩),
  (31, ⟨TypeDesc.func #[23, 23] #[4] false, 1, (.nilFunc)⟩),
  (32, ⟨TypeDesc.func #[24, 24] #[24] false, 1, (.nilFunc)⟩),
  (33, ⟨TypeDesc.func #[24] #[24] false, 1, (.nilFunc)⟩),
  (34, ⟨TypeDesc.func #[24] #[22] false, 1, (.nilFunc)⟩),
  (35, ⟨TypeDesc.func #[36, 36] #[4] false, 1, (.nilFunc)⟩),
  (36, ⟨TypeDesc.float FloatKind.f64, 1, (.float .f64 0)⟩),
  (38, ⟨TypeDesc.func #[24] #[24, 2] false, 1, (.nilFunc)⟩),
  (39, ⟨TypeDesc.array 3 22, 3, (.agg #[.float .f32 0, .float .f32 0, .float .f32 0])⟩),
  (40, ⟨TypeDesc.array 3 39, 9, (.agg #[.float .f32 0, .float .f32 0, .float .f32 0, .float .f32 0, .float .f32 0, .float .f32 0, .float .f32 0, .float .f32 0, .float .f32 0])⟩),
  (41, ⟨TypeDesc.array 3 39, 9, (.agg #[.float .f32 0, .float .f32 0, .float .f32 0, .float .f32 0, .float .f32 0, .float .f32 0, .float .f32 0, .float .f32 0, .float .f32 0])⟩),
  (42, ⟨TypeDesc.func #[24] #[41] false, 1, (.nilFunc)⟩),
  (43, ⟨TypeDesc.func #[41, 41] #[4] false, 1, (.nilFunc)⟩),
  (44, ⟨TypeDesc.array 3 22, 3, (.agg #[.float .f32 0, .float .f32 0, .float .f32 0])⟩),
  (45, ⟨TypeDesc.func #[24, 44] #[44] false, 1, (.nilFunc)⟩),
  (46, ⟨TypeDesc.func #[39] #[44] false, 1, (.nilFunc)⟩),
  (47, ⟨TypeDesc.func #[44, 44] #[4] false, 1, (.nilFunc)⟩),
  (48, ⟨TypeDesc.func #[23, 39] #[4] false, 1, (.nilFunc)⟩),
  (49, ⟨TypeDesc.func #[24, 24, 22] #[24, 2] false, 1, (.nilFunc)⟩),
  (50, ⟨TypeDesc.func #[23, 23, 22] #[4] false, 1, (.nilFunc)⟩),
  (51, ⟨TypeDesc.func #[41] #[24, 2] false, 1, (.nilFunc)⟩),
  (52, ⟨TypeDesc.func #[40] #[41] false, 1, (.nilFunc)⟩),
  (53, ⟨TypeDesc.func #[40] #[4] false, 1, (.nilFunc)⟩),
  (54, ⟨TypeDesc.func #[22] #[22] false, 1, (.nilFunc)⟩),
  (55, ⟨TypeDesc.func #[22] #[4] false, 1, (.nilFunc)⟩),
  (56, ⟨TypeDesc.func #[44] #[4] false, 1, (.nilFunc)⟩),
  (57, ⟨TypeDesc.func #[] #[44] false, 1, (.nilFunc)⟩),
  (58, ⟨TypeDesc.int IntKind.u32, 1, (.int .u32 0)⟩),
  (59, ⟨TypeDesc.array 4 58, 4, (.agg #[.int .u32 0, .int .u32 0, .int .u32 0, .int .u32 0])⟩),
  (60, ⟨TypeDesc.func #[] #[59] false, 1, (.nilFunc)⟩),
  (61, ⟨TypeDesc.func #[24, 24] #[22] false, 1, (.nilFunc)⟩),
  (62, ⟨TypeDesc.array 4 61, 4, (.agg #[.nilFunc, .nilFunc, .nilFunc, .nilFunc])⟩),
  (63, ⟨TypeDesc.func #[39, 39] #[4] false, 1, (.nilFunc)⟩),
  (64, ⟨TypeDesc.func #[41, 44] #[44] false, 1, (.nilFunc)⟩),
  (65, ⟨TypeDesc.func #[41] #[4] false, 1, (.nilFunc)⟩),
  (66, ⟨TypeDesc.func #[39] #[39] false, 1, (.nilFunc)⟩),
  (67, ⟨TypeDesc.func #[41] #[22] false, 1, (.nilFunc)⟩),
  (68, ⟨TypeDesc.func #[41] #[3] false, 1, (.nilFunc)⟩),
  (69, ⟨TypeDesc.func #[58] #[22] false, 1, (.nilFunc)⟩),
  (70, ⟨TypeDesc.func #[36] #[36] false, 1, (.nilFunc)⟩),
  (71, ⟨TypeDesc.func #[22, 22] #[4] false, 1, (.nilFunc)⟩),
  (72, ⟨TypeDesc.func #[22] #[58] false, 1, (.nilFunc)⟩),
  (73, ⟨TypeDesc.func #[44, 44] #[22] false, 1, (.nilFunc)⟩),
  (74, ⟨TypeDesc.func #[] #[36] false, 1, (.nilFunc)⟩),
  (75, ⟨TypeDesc.func #[76] #[36] false, 1, (.nilFunc)⟩),
  (76, ⟨TypeDesc.int IntKind.u64, 1, (.int .u64 0)⟩),
  (77, ⟨TypeDesc.func #[36] #[76] false, 1, (.nilFunc)⟩),
  (78, ⟨TypeDesc.func #[] #[9] false, 1, (.nilFunc)⟩),
  (81, ⟨TypeDesc.array 0 16, 0, (.agg #[])⟩),
  (84, ⟨TypeDesc.func #[] #[3] false, 1, (.nilFunc)⟩),
  (85, ⟨TypeDesc.int IntKind.u8, 1, (.int .u8 0)⟩),
  (86, ⟨TypeDesc.int IntKind.u8, 1, (.int .u8 0)⟩),
  (87, ⟨TypeDesc.func #[93, 93] #[4] false, 1, (.nilFunc)⟩),
  (88, ⟨TypeDesc.pointer 5, 1, (.pointer none)⟩),
  (89, ⟨TypeDesc.int IntKind.i32, 1, (.int .i32 0)⟩),
  (90, ⟨TypeDesc.int IntKind.i32, 1, (.int .i32 0)⟩)]
def findT (t : TypeId) : List (TypeId × TyI) → Option TyI
  | [] => none
  | (u, i) :: r => if Nat.beq u t then some i else findT t r
noncomputable def tb : Tab := fun t => findT t ttab
def allTy : List (TypeId × TyI) → Prop
  | [] => True
  | e :: r => tyOK e.1 e.2 ∧ allTy r
theorem findT_ok {t : TypeId} {i : TyI} : ∀ {l : List (TypeId × TyI)}, allTy l → findT t l = some i → tyOK t i
  | [], _, h => by cases h
  | (u, x) :: r, ⟨h1, h2⟩, h => by
    unfold findT at h
    split at h
    · rename_i hu; cases h; rw [← Nat.eq_of_beq_eq_true hu]; exact h1
    · exact findT_ok h2 h
theorem ttab_ok : allTy ttab := ⟨⟨Try.underlying1, by kernel_rfl, by kernel_rfl⟩, ⟨Try.underlying2, by kernel_rfl, by kernel_rfl⟩, ⟨Try.underlying3, by kernel_rfl, by kernel_rfl⟩, ⟨Try.underlying4, by kernel_rfl, by kernel_rfl⟩, ⟨Try.underlying5, by kernel_rfl, by kernel_rfl⟩, ⟨Try.underlying6, by kernel_rfl, by kernel_rfl⟩, ⟨Try.underlying12, by kernel_rfl, by kernel_rfl⟩, ⟨Try.underlying15, by kernel_rfl, by kernel_rfl⟩, ⟨Try.underlying16, by kernel_rfl, by kernel_rfl⟩, ⟨Try.underlying17, by kernel_rfl, by kernel_rfl⟩, ⟨Try.underlying20, by kernel_rfl, by kernel_rfl⟩, ⟨Try.underlying21, by kernel_rfl, by kernel_rfl⟩, ⟨Try.underlying22, by kernel_rfl, by kernel_rfl⟩, ⟨Try.underlying23, by kernel_rfl, by kernel_rfl⟩, ⟨Try.underlying24, by kernel_rfl, by kernel_rfl⟩, ⟨Try.underlying25, by kernel_rfl, by kernel_rfl⟩, ⟨Try.underlying26, by kernel_rfl, by kernel_rfl⟩, ⟨Try.underlying27, by kernel_rfl, by kernel_rfl⟩, ⟨Try.underlying28, by kernel_rfl, by kernel_rfl⟩, ⟨Try.underlying29, by kernel_rfl, by kernel_rfl⟩, ⟨Try.underlying30, by kernel_rfl, by kernel_rfl⟩, ⟨Try.underlying31, by kernel_rfl, by kernel_rfl⟩, ⟨Try.underlying32, by kernel_rfl, by kernel_rfl⟩, ⟨Try.underlying33, by kernel_rfl, by kernel_rfl⟩, ⟨Try.underlying34, by kernel_rfl, by kernel_rfl⟩, ⟨Try.underlying35, by kernel_rfl, by kernel_rfl⟩, ⟨Try.underlying36, by kernel_rfl, by kernel_rfl⟩, ⟨Try.underlying38, by kernel_rfl, by kernel_rfl⟩, ⟨Try.underlying39, by kernel_rfl, by kernel_rfl⟩, ⟨Try.underlying40, by kernel_rfl, by kernel_rfl⟩, ⟨Try.underlying41, by kernel_rfl, by kernel_rfl⟩, ⟨Try.underlying42, by kernel_rfl, by kernel_rfl⟩, ⟨Try.underlying43, by kernel_rfl, by kernel_rfl⟩, ⟨Try.underlying44, by kernel_rfl, by kernel_rfl⟩, ⟨Try.underlying45, by kernel_rfl, by kernel_rfl⟩, ⟨Try.underlying46, by kernel_rfl, by kernel_rfl⟩, ⟨Try.underlying47, by kernel_rfl, by kernel_rfl⟩, ⟨Try.underlying48, by kernel_rfl, by kernel_rfl⟩, ⟨Try.underlying49, by kernel_rfl, by kernel_rfl⟩, ⟨Try.underlying50, by kernel_rfl, by kernel_rfl⟩, ⟨Try.underlying51, by kernel_rfl, by kernel_rfl⟩, ⟨Try.underlying52, by kernel_rfl, by kernel_rfl⟩, ⟨Try.underlying53, by kernel_rfl, by kernel_rfl⟩, ⟨Try.underlying54, by kernel_rfl, by kernel_rfl⟩, ⟨Try.underlying55, by kernel_rfl, by kernel_rfl⟩, ⟨Try.underlying56, by kernel_rfl, by kernel_rfl⟩, ⟨Try.underlying57, by kernel_rfl, by kernel_rfl⟩, ⟨Try.underlying58, by kernel_rfl, by kernel_rfl⟩, ⟨Try.underlying59, by kernel_rfl, by kernel_rfl⟩, ⟨Try.underlying60, by kernel_rfl, by kernel_rfl⟩, ⟨Try.underlying61, by kernel_rfl, by kernel_rfl⟩, ⟨Try.underlying62, by kernel_rfl, by kernel_rfl⟩, ⟨Try.underlying63, by kernel_rfl, by kernel_rfl⟩, ⟨Try.underlying64, by kernel_rfl, by kernel_rfl⟩, ⟨Try.underlying65, by kernel_rfl, by kernel_rfl⟩, ⟨Try.underlying66, by kernel_rfl, by kernel_rfl⟩, ⟨Try.underlying67, by kernel_rfl, by kernel_rfl⟩, ⟨Try.underlying68, by kernel_rfl, by kernel_rfl⟩, ⟨Try.underlying69, by kernel_rfl, by kernel_rfl⟩, ⟨Try.underlying70, by kernel_rfl, by kernel_rfl⟩, ⟨Try.underlying71, by kernel_rfl, by kernel_rfl⟩, ⟨Try.underlying72, by kernel_rfl, by kernel_rfl⟩, ⟨Try.underlying73, by kernel_rfl, by kernel_rfl⟩, ⟨Try.underlying74, by kernel_rfl, by kernel_rfl⟩, ⟨Try.underlying75, by kernel_rfl, by kernel_rfl⟩, ⟨Try.underlying76, by kernel_rfl, by kernel_rfl⟩, ⟨Try.underlying77, by kernel_rfl, by kernel_rfl⟩, ⟨Try.underlying78, by kernel_rfl, by kernel_rfl⟩, ⟨Try.underlying81, by kernel_rfl, by kernel_rfl⟩, ⟨Try.underlying84, by kernel_rfl, by kernel_rfl⟩, ⟨Try.underlying85, by kernel_rfl, by kernel_rfl⟩, ⟨Try.underlying86, by kernel_rfl, by kernel_rfl⟩, ⟨Try.underlying87, by kernel_rfl, by kernel_rfl⟩, ⟨Try.underlying88, by kernel_rfl, by kernel_rfl⟩, ⟨Try.underlying89, by kernel_rfl, by kernel_rfl⟩, ⟨Try.underlying90, by kernel_rfl, by kernel_rfl⟩, trivial⟩
theorem tb_ok : TabOK Try.prog tb := fun t i h => findT_ok ttab_ok h
noncomputable def ftab : FTab := [(3, Try.f3), (4, Try.f4), (5, Try.f5), (6, Try.f6), (7, Try.f7), (8, Try.f8), (9, Try.f9), (10, Try.f10), (11, Try.f11), (12, Try.f12), (13, Try.f13), (14, Try.f14), (15, Try.f15), (16, Try.f16), (17, Try.f17), (18, Try.f18), (19, Try.f19), (20, Try.f20), (21, Try.f21), (22, Try.f22), (23, Try.f23), (24, Try.f24), (25, Try.f25), (26, Try.f26), (27, Try.f27), (28, Try.f28), (29, Try.f29), (30, Try.f30), (31, Try.f31), (32, Try.f32), (33, Try.f33), (34, Try.f34), (35, Try.f35), (36, Try.f36), (37, Try.f37), (38, Try.f38), (39, Try.f39), (40, Try.f40), (41, Try.f41), (42, Try.f42), (43, Try.f43), (44, Try.f44), (45, Try.f45), (46, Try.f46), (47, Try.f47), (48, Try.f48), (49, Try.f49), (50, Try.f50), (51, Try.f51), (52, Try.f52), (53, Try.f53), (54, Try.f54), (55, Try.f55), (56, Try.f56), (57, Try.f57), (58, Try.f58), (59, Try.f59), (60, Try.f60), (61, Try.f61), (62, Try.f62), (63, Try.f63), (64, Try.f64), (65, Try.f65), (66, Try.f66), (67, Try.f67), (68, Try.f68), (69, Try.f69), (70, Try.f70), (71, Try.f71), (72, Try.f72), (73, Try.f73), (74, Try.f74), (75, Try.f75), (78, Try.f78), (79, Try.f79), (80, Try.f80), (81, Try.f81), (82, Try.f82), (83, Try.f83), (84, Try.f84), (85, Try.f85), (86, Try.f86), (87, Try.f87)]
def fnOK (g : FuncId) (fn : Func) : Prop := Try.prog.funcs[g]? = some fn ∧ (fn.name == "runtime.NumGoroutine") = false ∧ fn.body.isNone = false
def allFn : FTab → Prop
  | [] => True
  | e :: r => fnOK e.1 e.2 ∧ allFn r
theorem allFn_ok : ∀ {l : FTab}, allFn l → ∀ g fn, (g, fn) ∈ l → fnOK g fn
  | [], _, g, fn, h => by simp at h
  | (g', fn') :: r, ⟨h1, h2⟩, g, fn, h => by
    rcases List.mem_cons.1 h with e | h
    · cases e; exact h1
    · exact allFn_ok h2 g fn h
theorem ftab_all : allFn ftab := ⟨⟨Try.func3, by kernel_rfl, by kernel_rfl⟩, ⟨Try.func4, by kernel_rfl, by kernel_rfl⟩, ⟨Try.func5, by kernel_rfl, by kernel_rfl⟩, ⟨Try.func6, by kernel_rfl, by kernel_rfl⟩, ⟨Try.func7, by kernel_rfl, by kernel_rfl⟩, ⟨Try.func8, by kernel_rfl, by kernel_rfl⟩, ⟨Try.func9, by kernel_rfl, by kernel_rfl⟩, ⟨Try.func10, by kernel_rfl, by kernel_rfl⟩, ⟨Try.func11, by kernel_rfl, by kernel_rfl⟩, ⟨Try.func12, by kernel_rfl, by kernel_rfl⟩, ⟨Try.func13, by kernel_rfl, by kernel_rfl⟩, ⟨Try.func14, by kernel_rfl, by kernel_rfl⟩, ⟨Try.func15, by kernel_rfl, by kernel_rfl⟩, ⟨Try.func16, by kernel_rfl, by kernel_rfl⟩, ⟨Try.func17, by kernel_rfl, by kernel_rfl⟩, ⟨Try.func18, by kernel_rfl, by kernel_rfl⟩, ⟨Try.func19, by kernel_rfl, by kernel_rfl⟩, ⟨Try.func20, by kernel_rfl, by kernel_rfl⟩, ⟨Try.func21, by kernel_rfl, by kernel_rfl⟩, ⟨Try.func22, by kernel_rfl, by kernel_rfl⟩, ⟨Try.func23, by kernel_rfl, by kernel_rfl⟩, ⟨Try.func24, by kernel_rfl, by kernel_rfl⟩, ⟨Try.func25, by kernel_rfl, by kernel_rfl⟩, ⟨Try.func26, by kernel_rfl, by kernel_rfl⟩, ⟨Try.func27, by kernel_rfl, by kernel_rfl⟩, ⟨Try.func28, by kernel_rfl, by kernel_rfl⟩, ⟨Try.func29, by kernel_rfl, by kernel_rfl⟩, ⟨Try.func30, by kernel_rfl, by kernel_rfl⟩, ⟨Try.func31, by kernel_rfl, by kernel_rfl⟩, ⟨Try.func32, by kernel_rfl, by kernel_rfl⟩, ⟨Try.func33, by kernel_rfl, by kernel_rfl⟩, ⟨Try.func34, by kernel_rfl, by kernel_rfl⟩, ⟨Try.func35, by kernel_rfl, by kernel_rfl⟩, ⟨Try.func36, by kernel_rfl, by kernel_rfl⟩, ⟨Try.func37, by kernel_rfl, by kernel_rfl⟩, ⟨Try.func38, by kernel_rfl, by kernel_rfl⟩, ⟨Try.func39, by kernel_rfl, by kernel_rfl⟩, ⟨Try.func40, by kernel_rfl, by kernel_rfl⟩, ⟨Try.func41, by kernel_rfl, by kernel_rfl⟩, ⟨Try.func42, by kernel_rfl, by kernel_rfl⟩, ⟨Try.func43, by kernel_rfl, by kernel_rfl⟩, ⟨Try.func44, by kernel_rfl, by kernel_rfl⟩, ⟨Try.func45, by kernel_rfl, by kernel_rfl⟩, ⟨Try.func46, by kernel_rfl, by kernel_rfl⟩, ⟨Try.func47, by kernel_rfl, by kernel_rfl⟩, ⟨Try.func48, by kernel_rfl, by kernel_rfl⟩, ⟨Try.func49, by kernel_rfl, by kernel_rfl⟩, ⟨Try.func50, by kernel_rfl, by kernel_rfl⟩, ⟨Try.func51, by kernel_rfl, by kernel_rfl⟩, ⟨Try.func52, by kernel_rfl, by kernel_rfl⟩, ⟨Try.func53, by kernel_rfl, by kernel_rfl⟩, ⟨Try.func54, by kernel_rfl, by kernel_rfl⟩, ⟨Try.func55, by kernel_rfl, by kernel_rfl⟩, ⟨Try.func56, by kernel_rfl, by kernel_rfl⟩, ⟨Try.func57, by kernel_rfl, by kernel_rfl⟩, ⟨Try.func58, by kernel_rfl, by kernel_rfl⟩, ⟨Try.func59, by kernel_rfl, by kernel_rfl⟩, ⟨Try.func60, by kernel_rfl, by kernel_rfl⟩, ⟨Try.func61, by kernel_rfl, by kernel_rfl⟩, ⟨Try.func62, by kernel_rfl, by kernel_rfl⟩, ⟨Try.func63, by kernel_rfl, by kernel_rfl⟩, ⟨Try.func64, by kernel_rfl, by kernel_rfl⟩, ⟨Try.func65, by kernel_rfl, by kernel_rfl⟩, ⟨Try.func66, by kernel_rfl, by kernel_rfl⟩, ⟨Try.func67, by kernel_rfl, by kernel_rfl⟩, ⟨Try.func68, by kernel_rfl, by kernel_rfl⟩, ⟨Try.func69, by kernel_rfl, by kernel_rfl⟩, ⟨Try.func70, by kernel_rfl, by kernel_rfl⟩, ⟨Try.func71, by kernel_rfl, by kernel_rfl⟩, ⟨Try.func72, by kernel_rfl, by kernel_rfl⟩, ⟨Try.func73, by kernel_rfl, by kernel_rfl⟩, ⟨Try.func74, by kernel_rfl, by kernel_rfl⟩, ⟨Try.func75, by kernel_rfl, by kernel_rfl⟩, ⟨Try.func78, by kernel_rfl, by kernel_rfl⟩, ⟨Try.func79, by kernel_rfl, by kernel_rfl⟩, ⟨Try.func80, by kernel_rfl, by kernel_rfl⟩, ⟨Try.func81, by kernel_rfl, by kernel_rfl⟩, ⟨Try.func82, by kernel_rfl, by kernel_rfl⟩, ⟨Try.func83, by kernel_rfl, by kernel_rfl⟩, ⟨Try.func84, by kernel_rfl, by kernel_rfl⟩, ⟨Try.func85, by kernel_rfl, by kernel_rfl⟩, ⟨Try.func86, by kernel_rfl, by kernel_rfl⟩, ⟨Try.func87, by kernel_rfl, by kernel_rfl⟩, trivial⟩
theorem ftab_ok : FTok Try.prog ftab := allFn_ok ftab_all
theorem mixed : Try.prog.follows .mixedOrders = true := by kernel_rfl
end Go.Proofs.Ytefpnehdgbollaa
