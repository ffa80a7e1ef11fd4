/- Feeds that are merged side by side, as the program does it. No condition. -/
import Derived.Test.YtmcbeaihjdnelaaMgc
import Derived.Test.YtmcbeaihjdnelaaGl
namespace Go.Proofs.Ytmcbeaihjdnelaa
open Go Go.RowKit
set_option linter.unusedVariables false
set_option linter.unusedSimpArgs false

/-- An append in a drawn region, also of nothing. -/
theorem step_append_ownAt {P : Program} {ops : Array Oper} {o : Oper} {a : Act} {w : World} {K : Act → World → Prop} {Q : Exit → Act → World → Prop} {E : Prop}
    (hg : o.guard = none) (s x : Operand) (t : TypeId) (hop : o.op = Op.call { callee := Callee.builtin Builtin.append, args := #[s, x], argTypes := #[t, t] })
    (base : Nat) (e : TypeId) (i : TypeInfo) (z : Value) (size bytes : Nat) (h1 : P.underlying t = some (.slice e)) (h2 : P.info? e = some i) (h3 : i.zero = some z) (h4 : i.size = size) (h5 : i.bytes = bytes) (h6 : z.cells.size = size) (h7 : 0 < size)
    (v : Value) (n : Nat) (xs : List Value) (hs : a.eval s = v) (hown : w.ownsRow base e size v n xs)
    (ad : Addr) (m c : Nat) (news : List Value) (hx : a.eval x = .slice (some ad) m c) (hn : news.length = m * size) (hc : ∀ j u, news[j]? = some u → w.cell? (ad.add j) = some u) (h1c : ∀ u ∈ news, u.oneCell' = true)
    (b1 : n + m ≤ maxLen) (b2 : (n + m) * bytes ≤ 140737488355328) (hbase : base ≤ w.heap.size)
    (hK : ∀ v' w', w'.ownsRow base e size v' (n + m) (xs ++ news) → w.grownBy w' v.ownBlock → (v' = .slice none 0 0 ↔ v = .slice none 0 0 ∧ m = 0) → (v'.ownBlock = v.ownBlock ∨ v'.ownBlock = some w.heap.size) → K (a.put o.dst v') w') :
    if Region.wanted o (yielded ops a.tmps) = true then Oper.wp P o a w K Q else E := by
  have hw : Region.wanted o (yielded ops a.tmps) = true := by simp [Region.wanted, hg]
  rw [if_pos hw]
  obtain ⟨v', w', hrun, r1, r2, r3, r4⟩ := run_append_own_at (P := P) w base t o.type e i z size bytes h1 h2 h3 h4 h5 h6 h7 v n xs hown ad m c news hn hc h1c b1 b2 hbase
  unfold Oper.wp
  simp [execOp, hop, resolve, invoke, builtin, hs, hx, hrun, Result.andThen]
  exact hK v' w' r1 r2 r3 r4


theorem c_when (m : Rd) (w : World) : Calls Try.prog 161 #[.agg #[.int .i64 m.t, .int .i16 m.a, .int .i16 m.b, .int .i16 m.c]] w fun e w' => ∃ v, e = .returned v ∧ v = .int .i64 m.t ∧ Stays w w' := by
  go_enter Try.func161, Try.ntmps161
  go_wp2
  go_ret
  exact ⟨_, rfl, rfl, by (repeat (first | exact Stays.refl _ | (with_reducible refine Stays.drewN ?_ _) | (with_reducible refine Stays.alloc ?_ _) | (with_reducible refine Stays.drew ?_) | (refine Stays.trans ?_ ‹Stays _ _›)))⟩
def whS (F : FuncId) (f : FuncId) (args : Array Value) (v : Value) : Prop := f = F → ∀ t a b c, args = #[.agg #[.int .i64 t, .int .i16 a, .int .i16 b, .int .i16 c]] → v = .int .i64 t
theorem whS_1 {F : FuncId} {t a b c : Int} {v : Value} : whS F F #[.agg #[.int .i64 t, .int .i16 a, .int .i16 b, .int .i16 c]] v ↔ v = .int .i64 t :=
  ⟨fun h => h rfl _ _ _ _ rfl, fun h _ t' a' b' c' e => by cases e; exact h⟩

/-- A block with a reading that is not the list's. -/
structure XBox (p : Nat) (m : Rd) (v : Value) (wr : World) : Prop where
  row : wr.heap[p]? = some (.cells #[.int .i64 m.t, .int .i16 m.a, .int .i16 m.b, .int .i16 m.c] 83 (0, 0))
  own : v.ownBlock ≠ some p
theorem XBox.on {p : Nat} {m : Rd} {v : Value} {wr w' : World} (h : XBox p m v wr) (hb : Stays wr w') : XBox p m v w' := ⟨(Below.block hb _ (in_heap h.row)).trans h.row, h.own⟩
theorem XBox.more {p : Nat} {m : Rd} {v v' : Value} {wr w' : World} {X : Obj} (h : XBox p m v wr) (hg : (wr.alloc X).grownBy w' v.ownBlock) (ho : v'.ownBlock = v.ownBlock ∨ v'.ownBlock = some (wr.alloc X).heap.size) : XBox p m v' w' := by
  have hlt := in_heap h.row
  refine ⟨?_, ?_⟩
  · refine (hg.block p (by simp; omega) (fun e => h.own e.symm)).trans ?_
    exact ((Stays.refl wr).alloc X).heap hlt h.row
  · rcases ho with e | e
    · rw [e]; exact h.own
    · rw [e]
      intro e2
      have := Option.some.inj e2
      simp at this
      omega
/-- What both loops keep. -/
structure Mg (w : World) (xs ys : List Rd) (i j : Nat) (M : List Rd) (v : Value) (wr : World) : Prop where
  st : Stays w wr
  own : wr.ownsRow w.heap.size 83 4 v M.length (cellsOf M)
  all : M ++ mrg (xs.drop i) (ys.drop j) = mrg xs ys
  len : M.length ≤ i + j
theorem own_stays {w w' : World} {B n : Nat} {v : Value} {xs : List Value} (h : w.ownsRow B 83 4 v n xs) (hs : Stays w w') : w'.ownsRow B 83 4 v n xs := by
  obtain ⟨h1, h2⟩ := h
  refine ⟨h1, ?_⟩
  rcases h2 with h2 | ⟨g, cap, cur, hv, hb, hg, hr⟩
  · exact .inl h2
  · exact .inr ⟨g, cap, cur, hv, hb, hs.heap (in_heap hg) hg, hr⟩
theorem Mg.on {w wr w' : World} {xs ys M : List Rd} {i j : Nat} {v : Value} (h : Mg w xs ys i j M v wr) (hb : Stays wr w') : Mg w xs ys i j M v w' := ⟨h.st.trans hb, own_stays h.own hb, h.all, h.len⟩
end Go.Proofs.Ytmcbeaihjdnelaa
