/- Feeds that are merged: by putting one reading after the other, and side by side. No condition. -/
import Derived.Test.YtmcbeaihjdnelaaLg
namespace Go.Proofs.Ytmcbeaihjdnelaa
open Go Go.RowKit
set_option linter.unusedVariables false
set_option linter.unusedSimpArgs false

/-- A reading is put into a feed, unless there is one of its time. -/
def putR (r : Rd) : List Rd → List Rd
  | [] => [r]
  | x :: xs => if x.t < r.t then x :: putR r xs else if x.t = r.t then x :: xs else r :: x :: xs
def dropEq (x : Rd) : List Rd → List Rd
  | [] => []
  | y :: ys => if y.t = x.t then ys else y :: ys
/-- Two feeds, side by side. -/
def mrg : List Rd → List Rd → List Rd
  | [], b => b
  | x :: a, b => b.takeWhile (fun y => decide (y.t < x.t)) ++ x :: mrg a (dropEq x (b.dropWhile (fun y => decide (y.t < x.t))))
def Asc (xs : List Rd) : Prop := xs.Pairwise fun a b => a.t < b.t

theorem mrg_less {x y : Rd} {a b : List Rd} (h : y.t < x.t) : mrg (x :: a) (y :: b) = y :: mrg (x :: a) b := by
  show (y :: b).takeWhile _ ++ x :: mrg a (dropEq x ((y :: b).dropWhile _)) = _
  rw [List.takeWhile_cons, List.dropWhile_cons, decide_eq_true h]
  rfl
theorem mrg_here {x : Rd} {a b : List Rd} (h : ∀ y, b.head? = some y → x.t ≤ y.t) : mrg (x :: a) b = x :: mrg a (dropEq x b) := by
  cases b with
  | nil => rfl
  | cons y ys =>
    have hy := h y rfl
    show (y :: ys).takeWhile _ ++ x :: mrg a (dropEq x ((y :: ys).dropWhile _)) = _
    rw [List.takeWhile_cons, List.dropWhile_cons, decide_eq_false (show ¬ y.t < x.t by omega)]
    rfl
theorem mrg_nil : ∀ a : List Rd, mrg a [] = a
  | [] => rfl
  | x :: a => by
    rw [mrg_here (fun y h => by cases h)]
    show x :: mrg a [] = _
    rw [mrg_nil a]
theorem dropEq_other {x y : Rd} {b : List Rd} (h : y.t ≠ x.t) : dropEq x (y :: b) = y :: b := if_neg h
theorem dropEq_same {x y : Rd} {b : List Rd} (h : y.t = x.t) : dropEq x (y :: b) = b := if_pos h
theorem dropEq_above {x : Rd} {b : List Rd} (h : ∀ y ∈ b, x.t < y.t) : dropEq x b = b := by
  cases b with
  | nil => rfl
  | cons y ys => exact dropEq_other (by have := h y (List.mem_cons_self ..); omega)
theorem mrg_above {x : Rd} {a b : List Rd} (h : ∀ y ∈ b, x.t < y.t) : mrg (x :: a) b = x :: mrg a b := by
  rw [mrg_here (fun y hy => by have := h y (List.mem_of_mem_head? hy); omega), dropEq_above h]

theorem mrg_put {y : Rd} {ys : List Rd} (hy : ∀ z ∈ ys, y.t < z.t) : ∀ a : List Rd, mrg (putR y a) ys = mrg a (y :: ys)
  | [] => mrg_above hy
  | x :: a => by
    show mrg (if x.t < y.t then x :: putR y a else if x.t = y.t then x :: a else y :: x :: a) ys = _
    by_cases h1 : x.t < y.t
    · have hx : ∀ z ∈ y :: ys, x.t < z.t := fun z hz => by
        rcases List.mem_cons.1 hz with rfl | hz
        · exact h1
        · have := hy z hz; omega
      rw [if_pos h1, mrg_above (fun z hz => hx z (List.mem_cons_of_mem _ hz)), mrg_put hy a, mrg_above hx]
    · rw [if_neg h1]
      by_cases h2 : x.t = y.t
      · rw [if_pos h2, mrg_above (fun z hz => by have := hy z hz; omega), mrg_here (fun z hz => by cases hz; omega), dropEq_same h2.symm]
      · rw [if_neg h2, mrg_less (by omega), mrg_above hy]

theorem putR_mem {r z : Rd} : ∀ {xs : List Rd}, z ∈ putR r xs → z = r ∨ z ∈ xs
  | [], h => by
    rcases List.mem_cons.1 h with e | h
    · exact Or.inl e
    · cases h
  | x :: xs, h => by
    unfold putR at h
    split at h
    · rcases List.mem_cons.1 h with e | h
      · exact Or.inr (e ▸ List.mem_cons_self ..)
      · rcases putR_mem h with e | e
        · exact Or.inl e
        · exact Or.inr (List.mem_cons_of_mem _ e)
    · split at h
      · exact Or.inr h
      · rcases List.mem_cons.1 h with e | h
        · exact Or.inl e
        · exact Or.inr h
theorem putR_asc {r : Rd} : ∀ {xs : List Rd}, Asc xs → Asc (putR r xs)
  | [], _ => List.pairwise_singleton ..
  | x :: xs, h => by
    obtain ⟨h1, h2⟩ := List.pairwise_cons.1 h
    unfold putR
    split
    · rename_i g
      refine List.pairwise_cons.2 ⟨fun z hz => ?_, putR_asc h2⟩
      rcases putR_mem hz with e | e
      · rw [e]; exact g
      · exact h1 z e
    · split
      · exact h
      · refine List.pairwise_cons.2 ⟨fun z hz => ?_, h⟩
        rcases List.mem_cons.1 hz with e | hz
        · rw [e]; omega
        · have := h1 z hz; omega

/-- Both ways give the same. -/
theorem puts_mrg : ∀ {b a : List Rd}, Asc a → Asc b → b.foldl (fun out r => putR r out) a = mrg a b
  | [], a, _, _ => (mrg_nil a).symm
  | y :: ys, a, ha, hb => by
    obtain ⟨h1, h2⟩ := List.pairwise_cons.1 hb
    show ys.foldl _ (putR y a) = _
    rw [puts_mrg (putR_asc ha) h2, mrg_put h1 a]
theorem put_mrg {r : Rd} {a : List Rd} (ha : Asc a) : putR r a = mrg a [r] := puts_mrg (b := [r]) ha (List.pairwise_singleton ..)

/-- The place that is found from behind. -/
theorem putR_at {r : Rd} : ∀ {xs : List Rd} {k : Nat}, k ≤ xs.length → (∀ j x, j < k → xs[j]? = some x → x.t < r.t) → (∀ j x, k ≤ j → xs[j]? = some x → r.t ≤ x.t) →
    putR r xs = if (xs[k]?).map Rd.t = some r.t then xs else xs.take k ++ r :: xs.drop k
  | [], k, hk, _, _ => by
    have : k = 0 := by simpa using hk
    subst this
    rfl
  | x :: xs, 0, _, _, h2 => by
    have hx := h2 0 x (Nat.le_refl _) rfl
    show (if x.t < r.t then _ else _) = if some x.t = some r.t then x :: xs else r :: x :: xs
    rw [if_neg (by omega)]
    by_cases e : x.t = r.t
    · rw [if_pos e, if_pos (congrArg some e)]
    · rw [if_neg e, if_neg (fun g => e (Option.some.inj g))]
  | x :: xs, k + 1, hk, h1, h2 => by
    have hx := h1 0 x (by omega) rfl
    have ih := putR_at (r := r) (xs := xs) (k := k) (by simpa using hk) (fun j z hj hz => h1 (j + 1) z (by omega) (by simpa using hz)) (fun j z hj hz => h2 (j + 1) z (by omega) (by simpa using hz))
    show (if x.t < r.t then x :: putR r xs else _) = if (xs[k]?).map Rd.t = some r.t then x :: xs else x :: (xs.take k ++ r :: xs.drop k)
    rw [if_pos hx, ih]
    split <;> rfl

theorem feed_asc {xs : List Rd} (h : feedOK (xs.map (·.t)) = true) : Asc xs := by
  have step : ∀ j (hj : j + 1 < xs.length), xs[j].t < xs[j + 1].t := fun j hj => by
    have g := feedOK_iff.1 h (j + 1)
    have e1 : (xs.map (·.t))[j + 1]? = some xs[j + 1].t := by rw [List.getElem?_map, List.getElem?_eq_getElem hj]; rfl
    have e0 : (xs.map (·.t))[j]? = some xs[j].t := by rw [List.getElem?_map, List.getElem?_eq_getElem (by omega)]; rfl
    exact (g _ e1).2 _ (by omega) (by simpa using e0)
  have up : ∀ d a (hd : a + d + 1 < xs.length), (xs[a]'(by omega)).t < xs[a + d + 1].t := by
    intro d
    induction d with
    | zero => exact fun a hd => step a hd
    | succ d ih => exact fun a hd => Int.lt_trans (ih a (by omega)) (step (a + d + 1) hd)
  refine List.pairwise_iff_getElem.2 fun i j hi hj hij => ?_
  have := up (j - i - 1) i (by omega)
  simpa [show i + (j - i - 1) + 1 = j by omega] using this
end Go.Proofs.Ytmcbeaihjdnelaa
