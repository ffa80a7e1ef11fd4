/- Bytes that are converted from a string's, and what is appended to them. No condition. -/
import Derived.Test.YtcopccniijkceaaPkb
import Derived.Lib.UnsafeStr
namespace Go.Proofs.Ytcopccniijkceaa
open Go Go.ChangeShapes Go.WideShapes Go.RowKit
set_option linter.unusedVariables false
set_option linter.unusedSimpArgs false


theorem wpList_append_is {P : Program} {w : World} {ops : Array Oper} {rest : List Oper} {o : Oper} {a : Act} {Q : Exit → Act → World → Prop} (hgd : o.guard = none) (s x : Operand) (t : TypeId)
    (ho : o.op = .call { callee := .builtin .append, args := #[s, x], argTypes := #[t, t] }) (vs vx v' : Value) (w' : World) (hs : a.eval s = vs) (hx : a.eval x = vx)
    (hr : (Builtin.append_ #[t, t] o.type #[vs, vx]).run P w = .ok v' w') (h : wpList P ops Q rest (a.put o.dst v') w') : wpList P ops Q (o :: rest) a w := by
  refine wpList_plain hgd fun K hK => ?_
  unfold Oper.wp execOp
  simp only [ho, resolve, invoke, builtin, Sem.run_bind, Sem.run_pure, Result.andThen_ok, List.map_toArray, List.map_cons, List.map_nil, hs, hx, hr]
  exact hK _ _ h

theorem cell_freeze (w : World) (p : Addr) (n : Nat) (q : Addr) : (w.freeze p n).cell? q = w.cell? q := by
  unfold World.freeze
  split
  · rfl
  · unfold World.cell?
    simp only [Array.getElem?_modify]
    by_cases h : p.block = q.block
    · rw [if_pos h]
      cases e : w.heap[q.block]? with
      | none => rfl
      | some o => cases o <;> rfl
    · rw [if_neg h]
theorem run_own_bytes (w : World) (cs : Array Value) (n : Nat) (hn : cs.size = n) : (convert 36 36 (.slice (some ⟨w.heap.size, 0, none⟩) n n)).run Try.prog (w.alloc (.cells cs 5)) = .ok (.slice (some ⟨w.heap.size, 0, none⟩) n n) ((w.alloc (.cells cs 5)).freeze ⟨w.heap.size, n, none⟩ 1) := by
  have hs : (w.alloc (.cells cs 5)).shape? w.heap.size = some (5, n) := by
    unfold World.shape?
    rw [heap_alloc_new w (.cells cs 5), ← hn]
  simp [convert, markStringish, run_underlying Try.underlying36, run_underlying Try.underlying5, Result.andThen, hs]

set_option maxRecDepth 100000 in
set_option maxHeartbeats 4000000 in
theorem c_with2G (B g : Nat) (n : Int) (w : World) (h0 : w.cell? ⟨g, 0, none⟩ = some (.int .u8 82)) (h1 : w.cell? ⟨g, 1, none⟩ = some (.int .u8 68)) (hB : B ≤ w.heap.size) (hg : g < w.heap.size) :
    Calls Try.prog 62 #[.slice (some ⟨g, 0, none⟩) 2 2, .int .u32 n, .int .i64 2] w fun e w' => ∃ v', e = .returned v' ∧ Below B w w' ∧ w'.ownsRow B 5 1 v' ([82, 68] ++ le2 n).length (bV ([82, 68] ++ le2 n)) := by
  obtain ⟨i0, hi0, hz0, hz1, hz2⟩ := info_parts infoB8
  have HC := Lib.hid fun W (hW : Stays w W) => And.intro ((hW.cell (p := ⟨g, 0, none⟩) hg).trans h0) ((hW.cell (p := ⟨g, 1, none⟩) hg).trans h1)
  replace hB := Lib.hid hB
  clear h0 h1
  go_enter Try.func62, Try.ntmps62
  go_wp2_with fail
  refine (c_lowFirst n w).mono ?_
  rintro e w1 ⟨rfl, hb⟩
  have hu := Lib.hid (heap_alloc_new w1 (.cells #[.int .u8 (n % 256), .int .u8 (n / 256 % 256), .int .u8 (n / 65536 % 256), .int .u8 (n / 16777216 % 256)] 180))
  have hst9 := Lib.hid (show Stays w (w1.alloc (.cells #[.int .u8 (n % 256), .int .u8 (n / 256 % 256), .int .u8 (n / 65536 % 256), .int .u8 (n / 16777216 % 256)] 180)) from hb.trans (by (repeat (first | exact Stays.refl _ | (with_reducible refine Stays.drewN ?_ _) | (with_reducible refine Stays.alloc ?_ _) | (with_reducible refine Stays.drew ?_) | (refine Stays.trans ?_ ‹Stays _ _›)))))
  have hcc := HC.out _ hst9.out
  have hr := run_append_grow (P := Try.prog) (w := w1.alloc (.cells #[.int .u8 (n % 256), .int .u8 (n / 256 % 256), .int .u8 (n / 65536 % 256), .int .u8 (n / 16777216 % 256)] 180)) 36 36 5 i0 (.int .u8 0) Try.underlying36 hi0 hz0 ⟨g, 0, none⟩ 2 2 (bV [82, 68]) (by rw [hz1]; rfl) (fun j v hj => by
      match j, hj with
      | 0, hj => cases hj; exact hcc.1
      | 1, hj => cases hj; exact hcc.2
      | j + 2, hj => simp [bV] at hj) ⟨w1.heap.size, 0, none⟩ 2 4 (bV (le2 n)) (by rw [hz1]; rfl) (news_row hu.out (le2_cells n)) (by decide) (by decide) (by rw [hz2]; decide)
  have hgc := Lib.hid (And.intro (grownCap_ge (w1.alloc (.cells #[.int .u8 (n % 256), .int .u8 (n / 256 % 256), .int .u8 (n / 65536 % 256), .int .u8 (n / 16777216 % 256)] 180)) (2 + 2) 2 5) (grownCap_le_maxLen (w1.alloc (.cells #[.int .u8 (n % 256), .int .u8 (n / 256 % 256), .int .u8 (n / 65536 % 256), .int .u8 (n / 16777216 % 256)] 180)) (2 + 2) 2 5 (by decide)))
  generalize grownCap (w1.alloc (.cells #[.int .u8 (n % 256), .int .u8 (n / 256 % 256), .int .u8 (n / 65536 % 256), .int .u8 (n / 16777216 % 256)] 180)) (2 + 2) 2 5 = gc at hr hgc
  replace hr := Lib.hid hr
  have hw1 := Lib.hid hb.size
  clear hcc hb
  go_wp2_with (at_builtin; refine wpList_append_is rfl _ _ 36 rfl _ _ _ _ rfl rfl hr.out ?_)
  go_wp2
  go_ret
  refine ⟨_, rfl, Below.mono (show Stays w _ from (hst9.out.alloc _).drew) hB.out, rfl, .inr ⟨w1.heap.size + 1, gc, _, rfl, by have := hB.out; have := hw1.out; omega, by
    have h := heap_alloc_new (w1.alloc (.cells #[.int .u8 (n % 256), .int .u8 (n / 256 % 256), .int .u8 (n / 65536 % 256), .int .u8 (n / 16777216 % 256)] 180)) (.cells ((bV [82, 68] ++ bV (le2 n)).toArray ++ Builtin.zeroCells #[.int .u8 0] (gc - 4)) 5)
    rw [show (w1.alloc (.cells #[.int .u8 (n % 256), .int .u8 (n / 256 % 256), .int .u8 (n / 65536 % 256), .int .u8 (n / 16777216 % 256)] 180)).heap.size = w1.heap.size + 1 from by simp] at h
    exact h, hgc.out.1, hgc.out.2, ?_, ?_⟩⟩
  · have := hgc.out.1
    simp only [Array.size_append, List.size_toArray, List.length_append, bV_len, size_zeroCells]
    show 2 + 2 + (gc - 4) * 1 = gc * 1
    omega
  · simp only [Array.toList_append]
    rw [← bV_app]
    exact List.take_left' rfl
end Go.Proofs.Ytcopccniijkceaa
