/- States: copied, and whether they are valid, by value and by pointer. A truth value of a struct by pointer: any walk; whether a state is valid. Texts of states, on both sides; the law. Texts of states: both functions and the law. No condition. -/
import Derived.Test.YtjggecboimdpdaaLz
import Derived.Test.YtjggecboimdpdaaYc
import Derived.Test.YtjggecboimdpdaaHy
import Derived.Test.YtjggecboimdpdaaTi
namespace Go.Proofs.Ytjggecboimdpdaa
open Go Go.RowKit
set_option linter.unusedVariables false

abbrev stK : List Kd := [.f .f32, .f .f32, .f .f32, .f .f32, .f .f32, .f .f32, .f .f32, .f .f32, .f .f32, .f .f32, .f .f32, .f .f32, .f .f32, .f .f32, .f .f32, .f .f32, .f .f32, .f .f32, .f .f32, .f .f32, .f .f32, .f .f32, .f .f32, .f .f32, .f .f32, .f .f32, .f .f32, .f .f32, .f .f32, .f .f32, .f .f32, .f .f32, .f .f32, .f .f32, .f .f32, .f .f32, .f .f32, .f .f32, .f .f32, .f .f32, .f .f32, .f .f32]
/-- A state as a value. -/
def Stt (v : Value) (ins : List NV) : Prop := ShM (.agg stK) v ins

noncomputable def wkTs : DT (SV × St) := callDT tb ftab otb 60 40 0 22 [inSh 0 (.agg stK)] ⟨.nil, [], []⟩
noncomputable def nsTs : List Df := wkTs.gather []
set_option maxRecDepth 1000000 in
theorem wfTs : wfT (withIds nsTs) [] = true := by kernel_rfl
set_option maxRecDepth 1000000 in
theorem chTs : wkTs.chk nsTs [] (endIs (.agg (inKs 0 stK))) = true := by kernel_rfl

set_option maxRecDepth 1000000 in
set_option maxHeartbeats 4000000 in
theorem c_toStt (v : Value) (ins : List NV) (w : World) (h : Stt v ins) : Calls Try.prog 22 #[v] w fun e w' => ∃ v', e = .returned v' ∧ Stt v' ins ∧ Below w.heap.size w w' := by
  have hl : ins.length = 42 := ShM_length h
  refine (walk_args (args := [inSh 0 (.agg stK)]) (vs := #[v]) (ins := ins) (r := .agg (inKs 0 stK)) tb_ok mixed ftab_ok (otb_ok baseΦ_ok) wfTs chTs (by kernel_rfl) ⟨inSh_ok h fun j hj => ins_at (by omega) j hj, trivial⟩).mono ?_
  rintro e w' ⟨v', γ, rfl, ⟨cs, rfl, hm⟩, hs⟩
  exact ⟨_, rfl, ⟨cs, rfl, KMs_back hm hl fun j hj => ins_at (by omega) j hj⟩, hs⟩

noncomputable def wkWS : DT (SV × St) := callDT tb ftab otb 60 40 1 44 [.one (.ptr 0 0)] ⟨.nil, [⟨inKs 0 stK, 48⟩], []⟩
noncomputable def wkWI : DT (SV × St) := walkOf tb ftab otb 48 [.agg stK]
noncomputable def nsW : List Df := wkWI.gather (wkWS.gather [])
set_option maxRecDepth 1000000 in
theorem wfW : wfT (withIds nsW) [] = true := by kernel_rfl
set_option maxRecDepth 1000000 in
theorem chWS : wkWS.chk nsW [] (fun x => okR (.p (.one .b)) x.1) = true := by kernel_rfl
set_option maxRecDepth 1000000 in
theorem chWI : wkWI.chk nsW [] (fun x => okR (.p (.one .b)) x.1) = true := by kernel_rfl
set_option maxRecDepth 1000000 in
theorem sameStt : sameG [] (rC nsW (.p (.one .b))) wkWI [] wkWS = true := by kernel_rfl

/-- Whether a state is valid. -/
noncomputable def sttB (ins : List NV) : Bool := ((gives baseΦ nsW wkWI (.p (.one .b)) ins).getD 0 (.i 0)).gb

theorem c_implValidState (v : Value) (ins : List NV) (w : World) (h : Stt v ins) : Calls Try.prog 48 #[v] w fun e w' => e = .returned (.bool (sttB ins)) ∧ Below w.heap.size w w' := by
  have hv : ShMs [.agg stK] (#[v] : Array Value).toList ins := ⟨ins, [], by simp, h, rfl⟩
  refine (walk_ok tb_ok mixed ftab_ok (otb_ok baseΦ_ok) wfW chWI (by decide) (by kernel_rfl) (fun n hn => by simp at hn) hv).mono ?_
  rintro e w' ⟨v', rfl, hr, hs⟩
  exact ⟨congrArg _ (bool_of hr), hs⟩

end Go.Proofs.Ytjggecboimdpdaa

namespace Go.Proofs.Ytjggecboimdpdaa
open Go Go.RowKit
set_option linter.unusedVariables false

theorem walk_ptr {Φ : Syms} {P : Program} {TB : Tab} {FT : FTab} {OT : OTab} (hT : TabOK P TB) (hm : P.follows .mixedOrders = true) (hF : FTok P FT) (hO : ∀ e ∈ OT, OpqOK P Φ e) {f : FuncId} {ks : List SS} {t : TypeId} {T : List Df} {D : DT (SV × St)}
    (hD : callDT TB FT OT 60 40 1 f [.one (.ptr 0 0)] ⟨.nil, [⟨ks, t⟩], []⟩ = D)
    (hw : wfT (withIds T) [] = true) (hchk : D.chk T [] (fun x => okR (.p (.one .b)) x.1) = true) (hb : (findF f FT).isSome = true)
    {ins : List NV} {w : World} {p : Nat} {cs : Array Value} (hg : w.heap[p]? = some (.cells cs t (0, 0))) (hcells : all2 (SSm (envT Φ (insOf ins) T) [p]) ks cs.toList) :
    Calls P f #[.pointer (some ⟨p, 0, none⟩)] w fun e w' => e = .returned (.bool ((gives Φ T D (.p (.one .b)) ins).getD 0 (.i 0)).gb) ∧ Below w.heap.size w w' := by
  have hd : ∀ d ∈ T, envT Φ (insOf ins) T d.id = d.sem Φ (envT Φ (insOf ins) T) := envT_ok Φ (insOf ins) T [] hw (fun n hn => by simp at hn) _ fun n _ => rfl
  have hh := DT.chk_at (leaf := fun x : SV × St => okR (.p (.one .b)) x.1) hd (R := []) (fun n hn => by simp at hn) _ hchk
  rw [← hD] at hh
  have hcall := called_of (f := f) hF hb (callDT_ok (ρ := envT Φ (insOf ins) T) hT hm hF hO 60 40 1 f [.one (.ptr 0 0)] ⟨.nil, [⟨ks, t⟩], []⟩ ⟨w, 1⟩ [p] #[.pointer (some ⟨p, 0, none⟩)] ⟨#[], []⟩ w _
    ⟨TM.zero _ _, ⟨rfl, by simp, fun b q hb hq => by
        have := (List.getElem?_eq_some_iff.1 hq).1
        simp at this
        have hb : 1 ≤ b := hb
        omega, fun b k hk => by
        match b, hk with
        | 0, hk => cases hk; exact ⟨p, cs, rfl, hg, hcells⟩⟩, Stays.refl w, fun c x h => by simp at h, rfl⟩ ⟨⟨p, rfl, rfl⟩, trivial⟩ hh)
  rw [hD] at hcall
  refine hcall.mono ?_
  rintro e w' ⟨v, r, γ, rfl, ⟨hat, hok⟩, hmv, _, hst, _⟩
  refine ⟨?_, hst⟩
  rw [bool_of (okR_ok hok hmv)]
  unfold gives
  rw [hat]

set_option maxRecDepth 1000000 in
theorem c_l03Ok (p : Nat) (cs : Array Value) (ins : List NV) (w : World) (hg : w.heap[p]? = some (.cells cs 48 (0, 0))) (h : Stt (.agg cs) ins) :
    Calls Try.prog 44 #[.pointer (some ⟨p, 0, none⟩)] w fun e w' => e = .returned (.bool (sttB ins)) ∧ Below w.heap.size w w' := by
  have hl : ins.length = 42 := ShM_length h
  obtain ⟨cs', e, hk⟩ := h
  cases e
  have hcells : all2 (SSm (envT baseΦ (insOf ins) nsW) [p]) (inKs 0 stK) cs.toList := inKs_ok hk fun j hj => ins_at (by omega) j hj
  have hs := gives_sameG (Φ := baseΦ) (ins := ins) wfW (fun l hl => by simp at hl) sameStt
  unfold sttB
  rw [← hs]
  exact walk_ptr (D := wkWS) tb_ok mixed ftab_ok (otb_ok baseΦ_ok) rfl wfW chWS (by kernel_rfl) hg hcells
end Go.Proofs.Ytjggecboimdpdaa

namespace Go.Proofs.Ytjggecboimdpdaa
open Go Go.ChangeShapes Go.WideShapes Go.RowKit
set_option linter.unusedVariables false
set_option linter.unusedSimpArgs false

theorem walk_ptrR {Φ : Syms} {P : Program} {TB : Tab} {FT : FTab} {OT : OTab} (hT : TabOK P TB) (hm : P.follows .mixedOrders = true) (hF : FTok P FT) (hO : ∀ e ∈ OT, OpqOK P Φ e) {f : FuncId} {ks : List SS} {t : TypeId} {T : List Df} {D : DT (SV × St)} {r : SP}
    (hD : callDT TB FT OT 60 40 1 f [.one (.ptr 0 0)] ⟨.nil, [⟨ks, t⟩], []⟩ = D)
    (hw : wfT (withIds T) [] = true) (hchk : D.chk T [] (endIs r) = true) (hb : (findF f FT).isSome = true)
    {ins : List NV} {w : World} {p : Nat} {cs : Array Value} (hg : w.heap[p]? = some (.cells cs t (0, 0))) (hcells : all2 (SSm (envT Φ (insOf ins) T) [p]) ks cs.toList) :
    Calls P f #[.pointer (some ⟨p, 0, none⟩)] w fun e w' => ∃ v γ, e = .returned v ∧ SPm (envT Φ (insOf ins) T) γ r v ∧ Stays w w' := by
  have hd : ∀ d ∈ T, envT Φ (insOf ins) T d.id = d.sem Φ (envT Φ (insOf ins) T) := envT_ok Φ (insOf ins) T [] hw (fun n hn => by simp at hn) _ fun n _ => rfl
  have hh := DT.chk_ok (leaf := endIs r) hd (R := []) (fun n hn => by simp at hn) _ hchk
  rw [← hD] at hh
  have hcall := called_of (f := f) hF hb (callDT_ok (ρ := envT Φ (insOf ins) T) hT hm hF hO 60 40 1 f [.one (.ptr 0 0)] ⟨.nil, [⟨ks, t⟩], []⟩ ⟨w, 1⟩ [p] #[.pointer (some ⟨p, 0, none⟩)] ⟨#[], []⟩ w _
    ⟨TM.zero _ _, ⟨rfl, by simp, fun b q hb hq => by
        have := (List.getElem?_eq_some_iff.1 hq).1
        simp at this
        have hb : 1 ≤ b := hb
        omega, fun b k hk => by
        match b, hk with
        | 0, hk => cases hk; exact ⟨p, cs, rfl, hg, hcells⟩⟩, Stays.refl w, fun c x h => by simp at h, rfl⟩ ⟨⟨p, rfl, rfl⟩, trivial⟩ hh)
  refine hcall.mono ?_
  rintro e w' ⟨v, q, γ, rfl, hq, hmv, _, hst, _⟩
  refine ⟨v, [p] ++ γ, rfl, ?_, hst⟩
  unfold endIs at hq
  split at hq
  · rename_i y hy
    have := spB_eq hq
    subst this
    rw [hy] at hmv
    exact hmv
  · cases hq

noncomputable def wkRw : DT (SV × St) := callDT tb ftab otb 60 40 1 49 [.one (.ptr 0 0)] ⟨.nil, [⟨inKs 0 stK, 48⟩], []⟩
noncomputable def nsRw : List Df := wkRw.gather []
set_option maxRecDepth 1000000 in
theorem wfRw : wfT (withIds nsRw) [] = true := by kernel_rfl
set_option maxRecDepth 1000000 in
theorem chRw : wkRw.chk nsRw [] (endIs (.agg (inKs 0 stK))) = true := by kernel_rfl

set_option maxRecDepth 1000000 in
theorem c_rows (p : Nat) (cs : Array Value) (ins : List NV) (w : World) (hg : w.heap[p]? = some (.cells cs 48 (0, 0))) (h : Stt (.agg cs) ins) :
    Calls Try.prog 49 #[.pointer (some ⟨p, 0, none⟩)] w fun e w' => ∃ rows, e = .returned (.agg rows) ∧ KMs stK rows.toList ins ∧ Stays w w' := by
  have hl : ins.length = 42 := ShM_length h
  obtain ⟨cs', e, hk⟩ := h
  cases e
  have hcells : all2 (SSm (envT baseΦ (insOf ins) nsRw) [p]) (inKs 0 stK) cs.toList := inKs_ok hk fun j hj => ins_at (by omega) j hj
  refine (walk_ptrR (D := wkRw) (r := .agg (inKs 0 stK)) tb_ok mixed ftab_ok (otb_ok baseΦ_ok) rfl wfRw chRw (by kernel_rfl) hg hcells).mono ?_
  rintro e w' ⟨v', γ, rfl, ⟨cs2, rfl, hm⟩, hs⟩
  exact ⟨_, rfl, KMs_back hm hl fun j hj => ins_at (by omega) j hj, hs⟩

/-- The word of a node: one for each NaN. -/
def cw (n : NV) : Nat := n.gf.getD 2143289344
theorem bits_cw {x : Nat} {n : NV} (h : FIs .f32 x n.gf) : bitsOf x = bitsOf (cw n) := by
  have hx := h.out
  unfold cw
  cases e : n.gf with
  | none =>
    rw [e] at hx
    unfold bitsOf
    rw [hx]
    show (2143289344 : Nat) = (can .f32 2143289344).getD 2143289344
    cases hc : can .f32 2143289344 with
    | none => rfl
    | some c => obtain ⟨rfl, _⟩ := can_some hc; rfl
  | some b =>
    rw [e] at hx
    obtain ⟨rfl, _⟩ := can_some hx
    rfl

theorem KF_canon : ∀ {n : Nat} {cs : List Value} {ns : List NV}, KMs (List.replicate n (.f .f32)) cs ns → ∃ xs : List Nat, cs = xs.map (Value.float .f32) ∧ xs.length = n ∧ (∀ x ∈ xs, x < 4294967296) ∧ xs.map bitsOf = (ns.map cw).map bitsOf
  | 0, [], [], _ => ⟨[], rfl, rfl, by simp, rfl⟩
  | n + 1, _ :: _, _ :: _, ⟨⟨b, e, hf⟩, h⟩ => by
    obtain ⟨xs, e2, hl, hb, hm⟩ := KF_canon (n := n) h
    refine ⟨b :: xs, by rw [e, e2]; rfl, by simp [hl], fun x hx => ?_, ?_⟩
    · rcases List.mem_cons.1 hx with rfl | hx
      · exact hf.lt
      · exact hb x hx
    · rw [List.map_cons, hm, bits_cw hf]
      rfl

theorem rowL_congr {xs ys : List Nat} (h : xs.map bitsOf = ys.map bitsOf) : rowL xs = rowL ys := by
  have e : ∀ zs : List Nat, zs.map hexB8 = (zs.map bitsOf).map fun b => (hexT b).data.toList := fun zs => by rw [List.map_map]; rfl
  unfold rowL
  rw [e, e, h]

def rowAt (xs : List Nat) (k : Nat) : List Nat := (xs.drop (6 * k)).take 6
/-- The text of the first rows. -/
def stT (xs : List Nat) : Nat → List UInt8
  | 0 => []
  | k + 1 => stT xs k ++ (rowL (rowAt xs k) ++ [10])
theorem stT_congr {xs ys : List Nat} (h : xs.map bitsOf = ys.map bitsOf) : ∀ k, stT xs k = stT ys k
  | 0 => rfl
  | k + 1 => by
    have e : rowL (rowAt xs k) = rowL (rowAt ys k) := rowL_congr (by unfold rowAt; rw [List.map_take, List.map_drop, h, List.map_take, List.map_drop])
    unfold stT
    rw [stT_congr h k, e]

theorem rowAt_len {xs : List Nat} (hl : xs.length = 42) {k : Nat} (hk : k < 7) : (rowAt xs k).length = 6 := by
  unfold rowAt; rw [List.length_take, List.length_drop]; omega
theorem rowL_len {xs : List Nat} : (rowL xs).length ≤ 9 * xs.length := by
  have := rowT_size xs xs.length (Nat.le_refl _)
  rw [List.take_length] at this
  exact this
theorem stT_len {xs : List Nat} (hl : xs.length = 42) : ∀ k, k ≤ 7 → (stT xs k).length ≤ 60 * k
  | 0, _ => Nat.le_refl _
  | k + 1, h => by
    have ih := stT_len hl k (by omega)
    have h1 := rowL_len (xs := rowAt xs k)
    rw [rowAt_len hl (by omega)] at h1
    unfold stT
    simp only [List.length_append, List.length_cons, List.length_nil]
    omega

theorem c_l01RowN (bk o c n : Nat) (xs : List Nat) (w : World) (h : Nums w bk o xs) (hx : ∀ x ∈ xs, x < 4294967296) (hl : xs.length = n) (hn : n ≤ 100) :
    Calls Try.prog 41 #[.slice (some ⟨bk, o, none⟩) n c] w fun e w' => e = .returned (.string (rowT xs)) ∧ Below w.heap.size w w' := by
  subst hl
  exact c_l01Row bk o c xs w h hx hn

theorem nums_row {W : World} {p : Nat} {cs : Array Value} {t : TypeId} {xs : List Nat} (hg : W.heap[p]? = some (.cells cs t (0, 0))) (hc : cs.toList = xs.map (Value.float .f32)) (k : Nat) : Nums W p (6 * k) (rowAt xs k) := by
  refine ⟨(Array.getElem?_eq_some_iff.1 hg).1, fun j x hj => ?_⟩
  rw [cell_of_row _ _ _ _ _ _ hg, ← Array.getElem?_toList, hc, List.getElem?_map]
  unfold rowAt at hj
  rw [List.getElem?_take] at hj
  split at hj
  · rw [List.getElem?_drop] at hj
    rw [hj]; rfl
  · cases hj

set_option maxRecDepth 100000 in
set_option maxHeartbeats 1000000 in
theorem c_l03Text (p : Nat) (cs : Array Value) (xs : List Nat) (w : World) (hg : w.heap[p]? = some (.cells cs 48 (0, 0))) (hc : cs.toList = xs.map (Value.float .f32)) (hl : xs.length = 42) (hx : ∀ x ∈ xs, x < 4294967296) :
    Calls Try.prog 45 #[.pointer (some ⟨p, 0, none⟩)] w fun e w' => e = .returned (.string ⟨(stT xs 7).toArray⟩) ∧ Below w.heap.size w w' := by
  have hp := (Array.getElem?_eq_some_iff.1 hg).1
  have kR : ∀ k, k < 7 → ∀ W, Stays w W → Calls Try.prog 41 #[.slice (some ⟨p, 6 * k, none⟩) 6 6] W fun e w' => e = .returned (.string (rowT (rowAt xs k))) ∧ Below W.heap.size W w' := fun k hk W hb =>
    c_l01RowN p (6 * k) 6 6 (rowAt xs k) W (nums_row ((Below.block hb p hp).trans hg) hc k) (fun x h => hx x (List.mem_of_mem_drop (List.mem_of_mem_take h))) (rowAt_len hl hk) (by omega)
  have hsz : ∀ k, k < 7 → (rowT (rowAt xs k)).size ≤ 54 := fun k hk => by
    have := rowL_len (xs := rowAt xs k)
    rw [rowAt_len hl hk] at this
    exact this
  have k0 := Lib.hid (kR 0 (by omega) w (Stays.refl w))
  replace kR := Lib.hid kR
  have hS := Lib.hid fun k (hk : k ≤ 7) => stT_len hl k hk
  have s0 := hsz 0 (by omega)
  have hstep : Hid (∀ k, (⟨(stT xs (k + 1)).toArray⟩ : ByteArray) = ⟨(stT xs k).toArray⟩ ++ (rowT (rowAt xs k) ++ (⟨#[10]⟩ : ByteArray))) := Lib.hid fun k => by
    show (⟨(stT xs k ++ (rowL (rowAt xs k) ++ [10])).toArray⟩ : ByteArray) = _
    unfold rowT
    apply ByteArray.ext
    simp
  have hfirst : Hid (rowT (rowAt xs 0) ++ (⟨#[10]⟩ : ByteArray) = ⟨(stT xs (0 + 1)).toArray⟩) := Lib.hid (by rw [hstep.out 0]; apply ByteArray.ext; simp [stT])
  replace hsz := Lib.hid hsz
  clear hg hc hl hx hp
  have p0 := fun w => run_string_add_sum (P := Try.prog) (w := w) (rowT (rowAt xs 0)) (⟨#[10]⟩ : ByteArray) (by show _ + 1 ≤ _; omega)
  generalize rowT (rowAt xs 0) = T0 at k0 hfirst p0 s0
  clear s0
  go_enter Try.func45, Try.ntmps45
  go_wp2_with fail
  refine k0.out.mono ?_
  rintro e w1 ⟨rfl, hb1⟩
  replace hb1 := Lib.hid (show Stays w w1 from hb1)
  go_wp2
  go_loopw [3, 4] (fun s i wr => ∃ k : Nat, k ≤ 6 ∧ i = .int .i64 k ∧ s = .string ⟨(stT xs (k + 1)).toArray⟩ ∧ Hid (Stays w wr)) (fun _ i _ => 6 - (intOf i).toNat)
  case atStart => exact ⟨0, Nat.zero_le _, rfl, by rw [hfirst.out], hb1⟩
  case round =>
    obtain ⟨k, hk, rfl, rfl, hb⟩ := hrel
    by_cases hlt : k < 6
    · have hlt' : (k : Int) < 6 := by omega
      have kk := kR.out (k + 1) (by omega) wr hb.out
      rw [show 6 * (k + 1) = 6 + k * 6 by omega] at kk
      have hs1 := hsz.out (k + 1) (by omega)
      have hs2 := hS.out (k + 1) (by omega)
      have hst := hstep.out (k + 1)
      generalize rowT (rowAt xs (k + 1)) = T at kk hs1 hst
      generalize stT xs (k + 1) = L at hs2 hst ⊢
      have q1 := fun w => run_string_add_sum (P := Try.prog) (w := w) T (⟨#[10]⟩ : ByteArray) (by show _ + 1 ≤ _; omega)
      have q2 := fun w => run_string_add_sum (P := Try.prog) (w := w) (⟨L.toArray⟩ : ByteArray) (T ++ (⟨#[10]⟩ : ByteArray)) (by rw [ByteArray.size_append]; show L.toArray.size + (_ + 1) ≤ _; rw [List.size_toArray]; omega)
      replace kk := Lib.hid kk
      replace hst := Lib.hid hst
      clear hs1 hs2
      go_wp2_with fail
      refine kk.out.mono ?_
      rintro e w2 ⟨rfl, hb2⟩
      replace hb2 := Lib.hid (hb.out.trans (show Stays wr w2 from hb2))
      go_wp2
      go_round
      case rel => exact ⟨k + 1, by omega, by go_num, by rw [hst.out], hb2⟩
      case measure => simp [intOf]; omega
    · have e : k = 6 := by omega
      subst e
      go_wp2
      go_ret
      exact ⟨rfl, hb.out⟩

theorem cons_of {n : Nat} {xs : List Nat} (h : xs.length = n + 1) : ∃ x l, xs = x :: l ∧ l.length = n := by
  cases xs with
  | nil => cases h
  | cons x l => exact ⟨x, l, rfl, by simpa using h⟩

set_option maxRecDepth 100000 in
set_option maxHeartbeats 1000000 in
theorem rows_at (rows : Array Value) (xs : List Nat) (hr : rows.toList = xs.map (Value.float .f32)) (hl : xs.length = 42) : ∀ k : Nat, k < 7 → ∃ a b c d e f, rowAt xs k = [a, b, c, d, e, f] ∧ ∀ w, (Instr.index 89 (.agg rows) (.int .i64 (k : Int))).run Try.prog w = .ok (.agg #[.float .f32 a, .float .f32 b, .float .f32 c, .float .f32 d, .float .f32 e, .float .f32 f]) w := by
  obtain ⟨x0, l0, rfl, h0⟩ := cons_of hl
  obtain ⟨x1, l1, rfl, h1⟩ := cons_of h0
  obtain ⟨x2, l2, rfl, h2⟩ := cons_of h1
  obtain ⟨x3, l3, rfl, h3⟩ := cons_of h2
  obtain ⟨x4, l4, rfl, h4⟩ := cons_of h3
  obtain ⟨x5, l5, rfl, h5⟩ := cons_of h4
  obtain ⟨x6, l6, rfl, h6⟩ := cons_of h5
  obtain ⟨x7, l7, rfl, h7⟩ := cons_of h6
  obtain ⟨x8, l8, rfl, h8⟩ := cons_of h7
  obtain ⟨x9, l9, rfl, h9⟩ := cons_of h8
  obtain ⟨x10, l10, rfl, h10⟩ := cons_of h9
  obtain ⟨x11, l11, rfl, h11⟩ := cons_of h10
  obtain ⟨x12, l12, rfl, h12⟩ := cons_of h11
  obtain ⟨x13, l13, rfl, h13⟩ := cons_of h12
  obtain ⟨x14, l14, rfl, h14⟩ := cons_of h13
  obtain ⟨x15, l15, rfl, h15⟩ := cons_of h14
  obtain ⟨x16, l16, rfl, h16⟩ := cons_of h15
  obtain ⟨x17, l17, rfl, h17⟩ := cons_of h16
  obtain ⟨x18, l18, rfl, h18⟩ := cons_of h17
  obtain ⟨x19, l19, rfl, h19⟩ := cons_of h18
  obtain ⟨x20, l20, rfl, h20⟩ := cons_of h19
  obtain ⟨x21, l21, rfl, h21⟩ := cons_of h20
  obtain ⟨x22, l22, rfl, h22⟩ := cons_of h21
  obtain ⟨x23, l23, rfl, h23⟩ := cons_of h22
  obtain ⟨x24, l24, rfl, h24⟩ := cons_of h23
  obtain ⟨x25, l25, rfl, h25⟩ := cons_of h24
  obtain ⟨x26, l26, rfl, h26⟩ := cons_of h25
  obtain ⟨x27, l27, rfl, h27⟩ := cons_of h26
  obtain ⟨x28, l28, rfl, h28⟩ := cons_of h27
  obtain ⟨x29, l29, rfl, h29⟩ := cons_of h28
  obtain ⟨x30, l30, rfl, h30⟩ := cons_of h29
  obtain ⟨x31, l31, rfl, h31⟩ := cons_of h30
  obtain ⟨x32, l32, rfl, h32⟩ := cons_of h31
  obtain ⟨x33, l33, rfl, h33⟩ := cons_of h32
  obtain ⟨x34, l34, rfl, h34⟩ := cons_of h33
  obtain ⟨x35, l35, rfl, h35⟩ := cons_of h34
  obtain ⟨x36, l36, rfl, h36⟩ := cons_of h35
  obtain ⟨x37, l37, rfl, h37⟩ := cons_of h36
  obtain ⟨x38, l38, rfl, h38⟩ := cons_of h37
  obtain ⟨x39, l39, rfl, h39⟩ := cons_of h38
  obtain ⟨x40, l40, rfl, h40⟩ := cons_of h39
  obtain ⟨x41, l41, rfl, h41⟩ := cons_of h40
  obtain rfl := List.eq_nil_of_length_eq_zero h41
  obtain ⟨l⟩ := rows
  replace hr : l = [.float .f32 x0, .float .f32 x1, .float .f32 x2, .float .f32 x3, .float .f32 x4, .float .f32 x5, .float .f32 x6, .float .f32 x7, .float .f32 x8, .float .f32 x9, .float .f32 x10, .float .f32 x11, .float .f32 x12, .float .f32 x13, .float .f32 x14, .float .f32 x15, .float .f32 x16, .float .f32 x17, .float .f32 x18, .float .f32 x19, .float .f32 x20, .float .f32 x21, .float .f32 x22, .float .f32 x23, .float .f32 x24, .float .f32 x25, .float .f32 x26, .float .f32 x27, .float .f32 x28, .float .f32 x29, .float .f32 x30, .float .f32 x31, .float .f32 x32, .float .f32 x33, .float .f32 x34, .float .f32 x35, .float .f32 x36, .float .f32 x37, .float .f32 x38, .float .f32 x39, .float .f32 x40, .float .f32 x41] := hr
  subst hr
  intro k hk
  rcases (show k = 0 ∨ k = 1 ∨ k = 2 ∨ k = 3 ∨ k = 4 ∨ k = 5 ∨ k = 6 from by omega) with rfl | rfl | rfl | rfl | rfl | rfl | rfl
  · exact ⟨x0, x1, x2, x3, x4, x5, rfl, fun w => by kernel_rfl⟩
  · exact ⟨x6, x7, x8, x9, x10, x11, rfl, fun w => by kernel_rfl⟩
  · exact ⟨x12, x13, x14, x15, x16, x17, rfl, fun w => by kernel_rfl⟩
  · exact ⟨x18, x19, x20, x21, x22, x23, rfl, fun w => by kernel_rfl⟩
  · exact ⟨x24, x25, x26, x27, x28, x29, rfl, fun w => by kernel_rfl⟩
  · exact ⟨x30, x31, x32, x33, x34, x35, rfl, fun w => by kernel_rfl⟩
  · exact ⟨x36, x37, x38, x39, x40, x41, rfl, fun w => by kernel_rfl⟩

theorem c_WriteString (B b : Nat) (l : List UInt8) (s : ByteArray) (w : World) (h : Bl B b l w) (hl : l.length + s.size ≤ 100000) :
    Calls Try.prog 50 #[.pointer (some ⟨b, 0, none⟩), .string s] w fun e w' => e = .returned (.tuple #[.int .i64 s.size, .nilIface]) ∧ Bl B b (l ++ s.data.toList) w' ∧ Below B w w' := by
  refine (Any.Builder_WriteString lays166 Builder_Extra_156 B b (Lib.byteCells l) s w h.1 (by rw [show (Lib.byteCells l).length = l.length from List.length_map ..]; omega) h.2).mono ?_
  rintro e w' ⟨rfl, h1, h2⟩
  refine ⟨rfl, ⟨.inr ?_, Nat.le_trans h.2 h2.size⟩, h2⟩
  rw [show Lib.byteCells (l ++ s.data.toList) = Lib.byteCells l ++ Lib.strCells s from by simp [Lib.byteCells, Lib.strCells]]
  exact h1
end Go.Proofs.Ytjggecboimdpdaa

namespace Go.Proofs.Ytjggecboimdpdaa
open Go Go.ChangeShapes Go.WideShapes Go.RowKit
set_option linter.unusedVariables false
set_option linter.unusedSimpArgs false

noncomputable def stX (ins : List NV) : ByteArray := if sttB ins then ⟨(stT (ins.map cw) 7).toArray⟩ else ⟨#[]⟩

theorem c_numbersTextN (bk o c n : Nat) (xs : List Nat) (w : World) (h : Nums w bk o xs) (hx : ∀ x ∈ xs, x < 4294967296) (hl : xs.length = n) (hn : n ≤ 100) :
    Calls Try.prog 42 #[.slice (some ⟨bk, o, none⟩) n c] w fun e w' => e = .returned (.string (rowT xs)) ∧ Below w.heap.size w w' := by
  subst hl
  exact c_numbersText bk o c xs w h hx hn

set_option maxRecDepth 100000 in
set_option maxHeartbeats 1000000 in
theorem c_specStateText (cs : Array Value) (ins : List NV) (w : World) (h : Stt (.agg cs) ins) :
    Calls Try.prog 21 #[.agg cs] w fun e w' => e = .returned (.string (stX ins)) ∧ Stays w w' := by
  have hbox := heap_alloc_new w (.cells cs 48)
  have hst : Stays w (w.alloc (.cells cs 48)) := by (repeat (first | exact Stays.refl _ | (with_reducible refine Stays.drewN ?_ _) | (with_reducible refine Stays.alloc ?_ _) | (with_reducible refine Stays.drew ?_) | (refine Stays.trans ?_ ‹Stays _ _›)))
  have kO := Lib.hid (c_l03Ok w.heap.size cs ins _ hbox h)
  obtain ⟨cs', e, hk⟩ := h
  cases e
  obtain ⟨xs, hc, hl, hx, hm⟩ := KF_canon (n := 42) hk
  have e7 := stT_congr hm 7
  have kT := Lib.hid fun W (hb : Stays (w.alloc (.cells cs 48)) W) => c_l03Text w.heap.size cs xs W ((Below.block hb _ (in_heap hbox)).trans hbox) hc hl hx
  rw [e7] at kT
  unfold stX
  generalize stT (ins.map cw) 7 = T at kT
  replace hst := Lib.hid hst
  clear hbox hk hc hl hx hm e7
  cases hb : sttB ins with
  | false =>
    rw [hb] at kO
    clear hb kT
    go_enter Try.func21, Try.ntmps21
    go_wp2_with fail
    refine kO.out.mono ?_
    rintro e w1 ⟨rfl, hb1⟩
    replace hb1 := Lib.hid (hst.out.trans hb1)
    go_wp2
    go_ret
    exact ⟨rfl, hb1.out⟩
  | true =>
    rw [hb] at kO
    clear hb
    simp only [if_true]
    go_enter Try.func21, Try.ntmps21
    go_wp2_with fail
    refine kO.out.mono ?_
    rintro e w1 ⟨rfl, hb1⟩
    have kT1 := Lib.hid (kT.out w1 hb1)
    replace hb1 := Lib.hid (hst.out.trans hb1)
    clear kT
    go_wp2_with fail
    refine kT1.out.mono ?_
    rintro e w2 ⟨rfl, hb2⟩
    replace hb1 := Lib.hid (hb1.out.trans (show Stays w1 w2 from hb2))
    go_wp2
    go_ret
    exact ⟨rfl, hb1.out⟩

theorem stT_next (xs : List Nat) (k : Nat) : stT xs (k + 1) = stT xs k ++ (rowT (rowAt xs k) ++ (⟨#[10]⟩ : ByteArray)).data.toList := by
  show stT xs k ++ (rowL (rowAt xs k) ++ [10]) = _
  unfold rowT
  simp

set_option maxRecDepth 100000 in
set_option maxHeartbeats 1000000 in
theorem c_implStateText (cs : Array Value) (ins : List NV) (w : World) (h : Stt (.agg cs) ins) :
    Calls Try.prog 23 #[.agg cs] w fun e w' => e = .returned (.string (stX ins)) ∧ Stays w w' := by
  have hbox := heap_alloc_new w (.cells cs 48)
  have hst : Stays w (w.alloc (.cells cs 48)) := by (repeat (first | exact Stays.refl _ | (with_reducible refine Stays.drewN ?_ _) | (with_reducible refine Stays.alloc ?_ _) | (with_reducible refine Stays.drew ?_) | (refine Stays.trans ?_ ‹Stays _ _›)))
  have kV := Lib.hid fun W => c_implValidState (.agg cs) ins W h
  have kR := Lib.hid fun W (hb : Stays (w.alloc (.cells cs 48)) W) => c_rows w.heap.size cs ins W ((Below.block hb _ (in_heap hbox)).trans hbox) h
  have hsz : cs.size = 42 := by obtain ⟨cs', e, hk⟩ := h; cases e; exact (Array.length_toList).symm.trans (KMs_len hk)
  have hrng : (w.alloc (.cells cs 48)).rangeAt w.heap.size 0 cs.toList := fun j u hu => by rw [Nat.zero_add, cell_of_row _ _ _ _ _ _ hbox, ← Array.getElem?_toList]; exact hu
  have hinf : (Try.prog.info? 48).map (·.size) = some cs.toList.length := by rw [Array.length_toList, hsz]; kernel_rfl
  unfold stX
  replace hst := Lib.hid hst
  replace hrng := Lib.hid hrng
  replace hinf := Lib.hid hinf
  clear hbox h hsz
  cases hb : sttB ins with
  | false =>
    rw [hb] at kV
    clear hb kR
    go_enter Try.func23, Try.ntmps23
    go_wp2_with (refine wpList_load_mid rfl 48 (.tmp 1) rfl w.heap.size 0 rfl cs.toList _ hrng.out Try.underlying48 rfl hinf.out ?_; rw [Array.toArray_toList])
    refine (kV.out _).mono ?_
    rintro e w1 ⟨rfl, hb1⟩
    replace hb1 := Lib.hid (hst.out.trans (show Stays _ w1 from hb1))
    go_wp2
    go_ret
    exact ⟨rfl, hb1.out⟩
  | true =>
    rw [hb] at kV
    clear hb
    simp only [if_true]
    go_enter Try.func23, Try.ntmps23
    go_wp2_with (refine wpList_load_mid rfl 48 (.tmp 1) rfl w.heap.size 0 rfl cs.toList _ hrng.out Try.underlying48 rfl hinf.out ?_; rw [Array.toArray_toList])
    refine (kV.out _).mono ?_
    rintro e w1 ⟨rfl, hb1⟩
    replace hb1 := Lib.hid (show Stays _ w1 from hb1)
    have hbl := Lib.hid (Bl.new w1)
    have hb2 := Lib.hid (hb1.out.trans (show Stays w1 (w1.alloc (.cells #[.pointer none, .slice none 0 0] 88)) from by (repeat (first | exact Stays.refl _ | (with_reducible refine Stays.drewN ?_ _) | (with_reducible refine Stays.alloc ?_ _) | (with_reducible refine Stays.drew ?_) | (refine Stays.trans ?_ ‹Stays _ _›)))))
    have kR2 := Lib.hid (kR.out _ hb2.out)
    have hsB : Hid (w.heap.size ≤ w1.heap.size) := Lib.hid (hst.out.trans hb1.out).size
    clear kR
    go_wp2_with fail
    generalize (w1.alloc (.cells #[.pointer none, .slice none 0 0] 88)) = W2 at hbl hb2 kR2 ⊢
    refine kR2.out.mono ?_
    rintro e w3 ⟨rows, rfl, hk, hw3⟩
    have hbl3 := Lib.hid (hbl.out.on hw3)
    have hb3 := Lib.hid (hst.out.trans (hb2.out.trans hw3))
    obtain ⟨xs, hc, hl, hx, hm⟩ := KF_canon (n := 42) hk
    have e7 := Lib.hid (stT_congr hm 7)
    have hrow := Lib.hid (rows_at rows xs hc hl)
    have hbd : Hid (∀ k, ∀ x ∈ rowAt xs k, x < 4294967296) := Lib.hid fun k x h => hx x (List.mem_of_mem_drop (List.mem_of_mem_take h))
    have hsl := Lib.hid fun k (h : k ≤ 7) => stT_len hl k h
    clear hk hc hl hx hm hw3 kR2 hb2
    generalize hw1 : w1.heap.size = B at hbl3 hsB ⊢
    clear hw1 hbl hb1
    go_wp2
    go_loopw [10] (fun i wr => ∃ k : Nat, k ≤ 7 ∧ i = .int .i64 k ∧ Hid (Bl B B (stT xs k) wr) ∧ Hid (Stays w wr)) (fun i _ => 7 - (intOf i).toNat)
    case atStart => exact ⟨0, Nat.zero_le _, rfl, hbl3, hb3⟩
    case round =>
      obtain ⟨k, hk, rfl, hBl, hs⟩ := hrel
      by_cases hlt : k < 7
      · have hlt' : (k : Int) < 7 := by omega
        obtain ⟨a, b, c, d, e, f, er, hix⟩ := hrow.out k hlt
        have hbk := hbd.out k
        have hnx := stT_next xs k
        have hlk := hsl.out k (by omega)
        have hrs : (rowT (rowAt xs k)).size ≤ 54 := by
          have := rowL_len (xs := rowAt xs k)
          rw [er] at this ⊢
          exact this
        rw [er] at hbk hnx hrs
        have kN := fun W hN => c_numbersTextN wr.heap.size 0 6 6 [a, b, c, d, e, f] W hN hbk rfl (by omega)
        have hN : Nums (wr.alloc (.cells #[.float .f32 a, .float .f32 b, .float .f32 c, .float .f32 d, .float .f32 e, .float .f32 f] 40)) wr.heap.size 0 [a, b, c, d, e, f] := nums_new wr _ _ _ rfl
        have kN := Lib.hid (kN _ hN)
        have hsa : Stays wr (wr.alloc (.cells #[.float .f32 a, .float .f32 b, .float .f32 c, .float .f32 d, .float .f32 e, .float .f32 f] 40)) := by (repeat (first | exact Stays.refl _ | (with_reducible refine Stays.drewN ?_ _) | (with_reducible refine Stays.alloc ?_ _) | (with_reducible refine Stays.drew ?_) | (refine Stays.trans ?_ ‹Stays _ _›)))
        have q1 := fun w => run_string_add_sum (P := Try.prog) (w := w) (rowT [a, b, c, d, e, f]) (⟨#[10]⟩ : ByteArray) (by show _ + 1 ≤ _; omega)
        have hsum : (stT xs k).length + (rowT [a, b, c, d, e, f] ++ (⟨#[10]⟩ : ByteArray)).size ≤ 100000 := by rw [ByteArray.size_append]; show _ + (_ + 1) ≤ _; omega
        have kW := Lib.hid fun W (h : Bl B B (stT xs k) W) => c_WriteString B B (stT xs k) (rowT [a, b, c, d, e, f] ++ (⟨#[10]⟩ : ByteArray)) W h hsum
        generalize rowT [a, b, c, d, e, f] = T at kN hnx q1 kW
        generalize stT xs k = L at hBl hnx kW
        replace hnx := Lib.hid hnx
        replace hsa := Lib.hid hsa
        clear er hbk hlk hrs hsum hN
        go_wp2_with fail
        refine kN.out.mono ?_
        rintro e' w4 ⟨rfl, hb4⟩
        have hs4 := Lib.hid (hsa.out.trans (show Stays _ w4 from hb4))
        have kW4 := Lib.hid (kW.out w4 (hBl.out.on hs4.out))
        clear hb4 kW
        go_wp2_with fail
        refine kW4.out.mono ?_
        rintro e' w5 ⟨rfl, h5, hb5⟩
        replace h5 := Lib.hid h5
        have hs5 : Hid (Stays w w5) := Lib.hid (Below.trans (show Below w.heap.size w w4 from hs.out.trans hs4.out) (hb5.mono hsB.out))
        clear hb5 hix
        go_wp2
        go_round
        case rel => exact ⟨k + 1, by omega, by go_num, by rw [hnx.out]; exact h5, hs5⟩
        case measure => simp [intOf]; omega
      · have e : k = 7 := by omega
        subst e
        have kS := Lib.hid (c_String B B _ wr hBl.out)
        go_wp2_with fail
        refine kS.out.mono ?_
        rintro e w4 ⟨rfl, hb4⟩
        have hf : Hid (Stays w w4) := Lib.hid (Below.trans (show Below w.heap.size w wr from hs.out) (hb4.mono hsB.out))
        go_wp2
        go_ret
        refine ⟨?_, hf.out⟩
        rw [← e7.out]
        rfl

set_option maxRecDepth 100000 in
set_option maxHeartbeats 1000000 in
theorem c_lawStateText (cs : Array Value) (ns : List NV) (w : World) (h : KMs stK cs.toList ns) (_ : RGs stK ns) :
    Calls Try.prog 7 #[.agg cs] w fun e w' => e = .returned (.bool true) ∧ Below w.heap.size w w' := by
  have hS0 : Stt (.agg cs) ns := ⟨_, rfl, h⟩
  have hbox := heap_alloc_new w (.cells cs 43)
  have hst : Stays w (w.alloc (.cells cs 43)) := by (repeat (first | exact Stays.refl _ | (with_reducible refine Stays.drewN ?_ _) | (with_reducible refine Stays.alloc ?_ _) | (with_reducible refine Stays.drew ?_) | (refine Stays.trans ?_ ‹Stays _ _›)))
  have hsz : cs.size = 42 := (Array.length_toList).symm.trans (KMs_len h)
  have hrng := Lib.hid fun W (hb : Stays (w.alloc (.cells cs 43)) W) => (show W.rangeAt w.heap.size 0 cs.toList from fun j u hu => by rw [Nat.zero_add, cell_of_row _ _ _ _ _ _ ((Below.block hb _ (in_heap hbox)).trans hbox), ← Array.getElem?_toList]; exact hu)
  have hinf : Hid ((Try.prog.info? 43).map (·.size) = some cs.toList.length) := Lib.hid (by rw [Array.length_toList, hsz]; kernel_rfl)
  have kT := Lib.hid fun W => c_toStt (.agg cs) ns W hS0
  have kS := Lib.hid fun cs' W h => c_specStateText cs' ns W h
  have kI := Lib.hid fun cs' W h => c_implStateText cs' ns W h
  generalize stX ns = T at kS kI
  replace hst := Lib.hid hst
  clear hbox h hsz hS0
  go_enter Try.func7, Try.ntmps7
  go_wp2_with (refine wpList_load_mid rfl 43 (.tmp 1) rfl w.heap.size 0 rfl cs.toList _ (hrng.out _ (Stays.refl _)) Try.underlying43 rfl hinf.out ?_; rw [Array.toArray_toList])
  generalize (w.alloc (.cells cs 43)) = W0 at hrng hst ⊢
  refine (kT.out _).mono ?_
  rintro e w1 ⟨v1, rfl, ⟨c1, rfl, h1⟩, hb1⟩
  replace hb1 := Lib.hid (show Stays W0 w1 from hb1)
  have k1 := Lib.hid (kS.out c1 w1 ⟨_, rfl, h1⟩)
  clear h1 kS
  go_wp2_with fail
  refine k1.out.mono ?_
  rintro e w2 ⟨rfl, hb2⟩
  replace hb2 := Lib.hid (hb1.out.trans hb2)
  clear hb1
  go_wp2_with (refine wpList_load_mid rfl 43 (.tmp 1) rfl w.heap.size 0 rfl cs.toList _ (hrng.out _ hb2.out) Try.underlying43 rfl hinf.out ?_; rw [Array.toArray_toList])
  refine (kT.out _).mono ?_
  rintro e w3 ⟨v3, rfl, ⟨c3, rfl, h3⟩, hb3⟩
  replace hb3 := Lib.hid (hb2.out.trans (show Stays w2 w3 from hb3))
  have k3 := Lib.hid (kI.out c3 w3 ⟨_, rfl, h3⟩)
  clear h3 kI hb2
  go_wp2_with fail
  refine k3.out.mono ?_
  rintro e w4 ⟨rfl, hb4⟩
  replace hb4 := Lib.hid (hst.out.trans (hb3.out.trans hb4))
  clear hb3
  go_wp2
  go_ret
  exact ⟨rfl, hb4.out⟩
end Go.Proofs.Ytjggecboimdpdaa
