/- A symbolic walk: code. No condition. -/
import Derived.Scope
import Derived.Test.YtcopccniijkceaaJn
namespace Go.Proofs.Ytcopccniijkceaa
open Go Go.RowKit
set_option linter.unusedVariables false
set_option linter.unusedSimpArgs false

noncomputable def codeDT (TB : Tab) (cf : CF) (df : DF) (rounds : Nat) : Code → St → DT (Ex × St)
  | .skip, st => .ret (.normal, st)
  | .label _, st => .ret (.normal, st)
  | .exit id, st => .ret (.exit id, st)
  | .ret, st => .ret (.ret, st)
  | .region _ ops false, st => (opsDT TB cf ops ops.toList st).bind fun st' => .ret (.normal, st')
  | .region _ ops true, st => (df ops st).bind fun st' => .ret (.normal, st')
  | .seq a b, st => jo rounds st.heap.length st.facts ((codeDT TB cf df rounds a st).bind fun r => match r.1 with
    | .normal => codeDT TB cf df rounds b r.2
    | e => .ret (e, r.2))
  | .cond c x y, st => match st.ev c with
    | .p (.one (.lit (.bool b))) => match b with
      | true => codeDT TB cf df rounds x st
      | false => codeDT TB cf df rounds y st
    | .p (.one (.bool n g)) => jo rounds st.heap.length st.facts (splitOn st n g fun b st => match b with
      | true => codeDT TB cf df rounds x st
      | false => codeDT TB cf df rounds y st)
    | _ => .fail 9
  | .block id c, st => jo rounds st.heap.length st.facts ((codeDT TB cf df rounds c st).bind fun r => match r.1 with
    | .exit j => if Nat.beq j id then .ret (.normal, r.2) else .ret (.exit j, r.2)
    | e => .ret (e, r.2))
  | .loop c, st => iterDT (codeDT TB cf df rounds c) rounds st
  | .scope c, st => codeDT TB cf df rounds c st
  | _, _ => .fail 10

section
variable {Φ : Syms} {ρ : Nat → NV} {P : Program} {TB : Tab} {cf : CF} {df : DF} {w0 : W0} {β : List Nat} {st : St} {a : Act} {w : World}

theorem iterDT_ok {c : Code} {f : St → DT (Ex × St)} {Q : Exit → Act → World → Prop}
    (hf : ∀ (Q' : Exit → Act → World → Prop) (st : St) (β : List Nat) (a : Act) (w : World), StM ρ w0 β st a w → (f st).holds Φ ρ (Ends ρ w0 β Q') → c.wp P Q' a w) :
    ∀ (n : Nat) (st : St) (β : List Nat) (a : Act) (w : World), StM ρ w0 β st a w → (iterDT f n st).holds Φ ρ (Ends ρ w0 β Q) → Code.rounds P c Q n a w
  | 0, _, _, _, _, _, h => h.elim
  | n + 1, st, β, a, w, H, h => by
    rw [rounds_succ]
    refine hf _ st β a w H (DT.holds_mono ?_ _ (DT.holds_bind _ h))
    rintro ⟨e, st'⟩ hr γ a' w' H'
    cases e with
    | normal => exact iterDT_ok hf n st' (β ++ γ) a' w' H' (DT.holds_mono (fun r hr => Ends.on hr) _ hr)
    | ret => exact hr γ a' w' H'
    | exit id => exact hr γ a' w' H'

theorem codeDT_ok (hT : TabOK P TB) (hcf : CFok P Φ ρ cf) (hro : cf.ro = w0.ro) (hdf : DFok P Φ ρ w0.ro df) (rounds : Nat) : ∀ (c : Code) (Q : Exit → Act → World → Prop) (st : St) (β : List Nat) (a : Act) (w : World), StM ρ w0 β st a w →
    (codeDT TB cf df rounds c st).holds Φ ρ (Ends ρ w0 β Q) → c.wp P Q a w
  | .skip, Q, st, β, a, w, H, h => wp_skip (h [] a w (by simpa using H))
  | .label _, Q, st, β, a, w, H, h => wp_label (h [] a w (by simpa using H))
  | .exit id, Q, st, β, a, w, H, h => wp_exit (h [] a w (by simpa using H))
  | .ret, Q, st, β, a, w, H, h => wp_ret (h [] a w (by simpa using H))
  | .region id ops false, Q, st, β, a, w, H, h => by
    refine wp_region_list ?_
    refine opsDT_ok hT hcf hro ops.toList st β a w H (DT.holds_mono ?_ _ (DT.holds_bind _ h))
    exact fun st' hr => hr
  | .region id ops true, Q, st, β, a, w, H, h => hdf id ops st w0 β a w Q rfl H (DT.holds_mono (fun st' hr => hr) _ (DT.holds_bind _ h))
  | .seq x y, Q, st, β, a, w, H, h => by
    have h := jo_ok H.facts H.heap.len h
    refine wp_seq (codeDT_ok hT hcf hro hdf rounds x _ st β a w H (DT.holds_mono ?_ _ (DT.holds_bind _ h)))
    rintro ⟨e, st'⟩ hr γ a' w' H'
    cases e with
    | normal => exact codeDT_ok hT hcf hro hdf rounds y Q st' (β ++ γ) a' w' H' (DT.holds_mono (fun r hr => Ends.on hr) _ hr)
    | ret => exact hr γ a' w' H'
    | exit id => exact hr γ a' w' H'
  | .cond c x y, Q, st, β, a, w, H, h => by
    unfold codeDT at h
    have hc := H.ev c
    split at h
    · rename_i b hb
      rw [hb] at hc
      cases b with
      | true => exact wp_cond (t := true) hc (codeDT_ok hT hcf hro hdf rounds x Q st β a w H h)
      | false => exact wp_cond (t := false) hc (codeDT_ok hT hcf hro hdf rounds y Q st β a w H h)
    · rename_i n g hb
      rw [hb] at hc
      have h := jo_ok H.facts H.heap.len h
      obtain ⟨st', _, _, H', h⟩ := splitOn_ok H h
      refine wp_cond hc ?_
      cases hbb : (ρ n).gb != g with
      | true => rw [hbb] at h; exact codeDT_ok hT hcf hro hdf rounds x Q st' β a w H' h
      | false => rw [hbb] at h; exact codeDT_ok hT hcf hro hdf rounds y Q st' β a w H' h
    · exact h.elim
  | .block id c, Q, st, β, a, w, H, h => by
    have h := jo_ok H.facts H.heap.len h
    refine wp_block (codeDT_ok hT hcf hro hdf rounds c _ st β a w H (DT.holds_mono ?_ _ (DT.holds_bind _ h)))
    rintro ⟨e, st'⟩ hr γ a' w' H'
    cases e with
    | normal => exact hr γ a' w' H'
    | ret => exact hr γ a' w' H'
    | exit j =>
      simp only at hr
      unfold Ex.to Exit.inBlock
      split at hr
      · rename_i hj
        simp only
        rw [if_pos (Nat.eq_of_beq_eq_true hj)]
        exact hr γ a' w' H'
      · rename_i hj
        simp only
        rw [if_neg (fun e => hj (by rw [e]; exact Nat.beq_refl id))]
        exact hr γ a' w' H'
  | .loop c, Q, st, β, a, w, H, h => wp_loop_rounds rounds (iterDT_ok (fun Q' st β a w => codeDT_ok hT hcf hro hdf rounds c Q' st β a w) rounds st β a w H h)
  | .scope c, Q, st, β, a, w, H, h => by
    refine wp_scope_straight (codeDT_ok hT hcf hro hdf rounds c _ st β a w H (DT.holds_mono ?_ _ h))
    rintro ⟨e, st'⟩ hr γ a' w' H'
    have := hr γ a' w' H'
    cases e <;> exact this
  | .rangeFunc .., Q, st, β, a, w, H, h => h.elim
  | .goto l, Q, st, β, a, w, H, h => h.elim
  | .refuse s, Q, st, β, a, w, H, h => h.elim
end
end Go.Proofs.Ytcopccniijkceaa
