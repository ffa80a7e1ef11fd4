/- A symbolic walk: what the kernel checks of a function's ways. No condition. -/
import Derived.Test.YtcopccniijkceaaY7
namespace Go.Proofs.Ytcopccniijkceaa
open Go Go.RowKit
set_option linter.unusedVariables false
set_option linter.unusedSimpArgs false

noncomputable def Df.beq (d e : Df) : Bool := Nat.beq d.op e.op && (Nat.beq d.imm e.imm && beqL d.args e.args)
theorem Df.beq_eq {d e : Df} (h : d.beq e = true) : d = e := by
  simp only [Df.beq, Bool.and_eq_true] at h
  cases d; cases e
  simp only at h
  rw [Nat.eq_of_beq_eq_true h.1, Nat.eq_of_beq_eq_true h.2.1, beqL_eq h.2.2]

/-- All nodes that are made, each once, in the order in which they are met. -/
noncomputable def memD (d : Df) : List Df → Bool
  | [] => false
  | e :: r => d.beq e || memD d r
theorem memD_mem {d : Df} : ∀ {l : List Df}, memD d l = true → d ∈ l
  | e :: r, h => by
    simp only [memD, Bool.or_eq_true] at h
    rcases h with h | h
    · rw [Df.beq_eq h]; exact List.mem_cons_self
    · exact List.mem_cons_of_mem _ (memD_mem h)

/-- In reversed order. The list is made at once, not when it is asked for. -/
noncomputable def DT.gatherC {α : Type} (m : DT α) : List Df → (List Df → List Df) → List Df :=
  DT.rec (motive := fun _ => List Df → (List Df → List Df) → List Df) (fun _ T K => K T) (fun _ _ _ gt ge T K => gt T (fun T' => ge T' K))
    (fun d _ gk T K => Bool.rec (motive := fun _ => List Df) (gk (d :: T) K) (gk T K) (memD d T)) (fun _ _ _ gk T K => gk T K) (fun _ T K => K T) m
noncomputable def DT.gather {α : Type} (m : DT α) (T : List Df) : List Df := m.gatherC T fun T => T

noncomputable def upd (ρ : Nat → NV) (n : Nat) (v : NV) : Nat → NV := fun m => if m = n then v else ρ m

/-- What the nodes stand for (the last one in the list is made first). -/
noncomputable def envT (Φ : Syms) (ins : Nat → NV) : List Df → (Nat → NV)
  | [] => ins
  | d :: T => upd (envT Φ ins T) d.id (d.sem Φ (envT Φ ins T))

noncomputable def memN (n : Nat) : List Nat → Bool
  | [] => false
  | x :: r => Nat.beq n x || memN n r

/-- later: the ids of what is made later. -/
noncomputable def wfT : List (Nat × Df) → List Nat → Bool
  | [], _ => true
  | (i, d) :: T, later => !(memN i later) && (d.args.all fun x => !(memN x (i :: later))) && wfT T (i :: later)

noncomputable def withIds (T : List Df) : List (Nat × Df) := T.map fun d => (d.id, d)

theorem id_big (d : Df) : 1000 ≤ d.id := Nat.le_add_left 1000 _

theorem memN_false {n : Nat} : ∀ {l : List Nat}, memN n l = false → n ∉ l
  | [], _ => by simp
  | x :: r, h => by
    simp only [memN, Bool.or_eq_false_iff] at h
    intro hm
    rcases List.mem_cons.1 hm with rfl | hm
    · rw [Nat.beq_refl] at h; cases h.1
    · exact memN_false h.2 hm

theorem sem_congr {Φ : Syms} {ρ ρ' : Nat → NV} {d : Df} (h0 : ρ 0 = ρ' 0) (h : ∀ x ∈ d.args, ρ x = ρ' x) : d.sem Φ ρ = d.sem Φ ρ' := by
  have hg : ∀ i, ρ (d.args.getD i 0) = ρ' (d.args.getD i 0) := by
    intro i
    rw [List.getD_eq_getElem?_getD]
    cases hx : d.args[i]? with
    | none => exact h0
    | some x => exact h x (List.mem_of_getElem? hx)
  have hm : d.args.map ρ = d.args.map ρ' := List.map_congr_left h
  have ha : (d.args.all fun n => (ρ n).gb) = d.args.all fun n => (ρ' n).gb := by
    rw [Bool.eq_iff_iff, List.all_eq_true, List.all_eq_true]
    exact ⟨fun k x hx => by rw [← h x hx]; exact k x hx, fun k x hx => by rw [h x hx]; exact k x hx⟩
  unfold Df.sem
  simp only [hg, hm, ha]

/-- The list with the last one first: wf says of each tail that what is made later touches it not. -/
theorem envT_ins (Φ : Syms) (ins : Nat → NV) : ∀ (T : List Df) (n : Nat), n < 1000 → envT Φ ins T n = ins n
  | [], n, _ => rfl
  | d :: T, n, h => by
    unfold envT upd
    rw [if_neg (by have := id_big d; omega)]
    exact envT_ins Φ ins T n h

theorem envT_cons (Φ : Syms) (ins : Nat → NV) (d : Df) (T : List Df) (n : Nat) : envT Φ ins (d :: T) n = if n = d.id then d.sem Φ (envT Φ ins T) else envT Φ ins T n := rfl

theorem envT_ok (Φ : Syms) (ins : Nat → NV) : ∀ (T : List Df) (later : List Nat), wfT (withIds T) later = true → (∀ n ∈ later, 1000 ≤ n) →
    ∀ ρ : Nat → NV, (∀ n, n ∉ later → ρ n = envT Φ ins T n) → ∀ d ∈ T, ρ d.id = d.sem Φ ρ
  | [], _, _, _, _, _, d, hd => by simp at hd
  | e :: T, later, h, hl, ρ, hρ, d, hd => by
    simp only [withIds, List.map_cons, wfT, Bool.and_eq_true] at h
    obtain ⟨⟨h1, h2⟩, h3⟩ := h
    have hni : e.id ∉ later := memN_false (by simpa using h1)
    have hargs : ∀ x ∈ e.args, x ∉ e.id :: later := fun x hx => memN_false (by have := List.all_eq_true.1 h2 x hx; simpa using this)
    rcases List.mem_cons.1 hd with rfl | hd
    · rw [hρ _ hni, envT_cons, if_pos rfl]
      refine sem_congr ?_ ?_
      · rw [hρ 0 (fun hm => by have := hl 0 hm; omega), envT_ins _ _ _ _ (by omega), envT_ins _ _ _ _ (by omega)]
      · intro x hx
        have hx' := hargs x hx
        rw [hρ x (fun hm => hx' (List.mem_cons_of_mem _ hm)), envT_cons, if_neg (fun he => hx' (by rw [he]; exact List.mem_cons_self))]
    · refine envT_ok Φ ins T (e.id :: later) h3 ?_ ρ ?_ d hd
      · intro n hn
        rcases List.mem_cons.1 hn with rfl | hn
        · exact id_big e
        · exact hl n hn
      · intro n hn
        rw [hρ n (fun hm => hn (List.mem_cons_of_mem _ hm)), envT_cons, if_neg (fun he => hn (by rw [he]; exact List.mem_cons_self))]

/-! ### Checks -/

/-- Nothing fails; all nodes lie in T; nothing is asked that is not listed; the ends are as told. -/
noncomputable def DT.chk {α : Type} (T : List Df) (R : List Nat) (leaf : α → Bool) : DT α → Bool
  | .ret x => leaf x
  | .split _ t e => t.chk T R leaf && e.chk T R leaf
  | .mk d k => memD d T && k.chk T R leaf
  | .req g n k => (Nat.beq g 0 && memN n R) && k.chk T R leaf
  | .fail _ => false

theorem memN_mem {n : Nat} : ∀ {l : List Nat}, memN n l = true → n ∈ l
  | x :: r, h => by
    simp only [memN, Bool.or_eq_true] at h
    rcases h with h | h
    · rw [Nat.eq_of_beq_eq_true h]; exact List.mem_cons_self
    · exact List.mem_cons_of_mem _ (memN_mem h)

theorem DT.chk_ok {α : Type} {Φ : Syms} {ρ : Nat → NV} {T : List Df} {R : List Nat} {leaf : α → Bool} (hT : ∀ d ∈ T, ρ d.id = d.sem Φ ρ) (hR : ∀ n ∈ R, ∀ c, (ρ n).gf = some c → fits c = true) :
    ∀ m : DT α, m.chk T R leaf = true → m.holds Φ ρ fun x => leaf x = true
  | .ret x, h => h
  | .split c t e, h => by
    simp only [DT.chk, Bool.and_eq_true] at h
    unfold DT.holds
    split
    · exact DT.chk_ok hT hR t h.1
    · exact DT.chk_ok hT hR e h.2
  | .mk d k, h => by
    simp only [DT.chk, Bool.and_eq_true] at h
    exact ⟨hT d (memD_mem h.1), DT.chk_ok hT hR k h.2⟩
  | .req g n k, h => by
    simp only [DT.chk, Bool.and_eq_true] at h
    obtain rfl := Nat.eq_of_beq_eq_true h.1.1
    exact ⟨hR n (memN_mem h.1.2), DT.chk_ok hT hR k h.2⟩
  | .fail y, h => by cases h

/-- The end of the way that ρ goes. -/
noncomputable def DT.at_ {α : Type} (ρ : Nat → NV) : DT α → Option α
  | .ret x => some x
  | .split c t e => if (ρ c).gb = true then t.at_ ρ else e.at_ ρ
  | .mk _ k => k.at_ ρ
  | .req _ _ k => k.at_ ρ
  | .fail _ => none

theorem DT.chk_at {α : Type} {Φ : Syms} {ρ : Nat → NV} {T : List Df} {R : List Nat} {leaf : α → Bool} (hT : ∀ d ∈ T, ρ d.id = d.sem Φ ρ) (hR : ∀ n ∈ R, ∀ c, (ρ n).gf = some c → fits c = true) :
    ∀ m : DT α, m.chk T R leaf = true → m.holds Φ ρ fun x => m.at_ ρ = some x ∧ leaf x = true
  | .ret x, h => ⟨rfl, h⟩
  | .split c t e, h => by
    simp only [DT.chk, Bool.and_eq_true] at h
    unfold DT.holds DT.at_
    split
    · exact DT.chk_at hT hR t h.1
    · exact DT.chk_at hT hR e h.2
  | .mk d k, h => by
    simp only [DT.chk, Bool.and_eq_true] at h
    exact ⟨hT d (memD_mem h.1), DT.chk_at hT hR k h.2⟩
  | .req g n k, h => by
    simp only [DT.chk, Bool.and_eq_true] at h
    obtain rfl := Nat.eq_of_beq_eq_true h.1.1
    exact ⟨hR n (memN_mem h.1.2), DT.chk_at hT hR k h.2⟩
  | .fail y, h => by cases h

/-! ### Two functions with the same ways -/

noncomputable def litB : SS → SS → Bool
  | .lit (.int k a), .lit (.int k' b) => sameKind k k' && decide (a = b)
  | .lit (.bool a), .lit (.bool b) => a == b
  | .lit (.float k a), .lit (.float k' b) => Nat.beq (kn k) (kn k') && Nat.beq a b
  | .flt k a, .flt k' b => Nat.beq (kn k) (kn k') && Nat.beq a b
  | .int k a, .int k' b => sameKind k k' && Nat.beq a b
  | .bool a g, .bool b g' => Nat.beq a b && (g == g')
  | _, _ => false
theorem litB_eq {x y : SS} (h : litB x y = true) : x = y := by
  unfold litB at h
  split at h
  · simp only [Bool.and_eq_true, decide_eq_true_eq] at h; rw [sameKind_eq h.1, h.2]
  · rw [eq_of_beq h]
  · simp only [Bool.and_eq_true] at h; rw [kn_inj (Nat.eq_of_beq_eq_true h.1), Nat.eq_of_beq_eq_true h.2]
  · simp only [Bool.and_eq_true] at h; rw [kn_inj (Nat.eq_of_beq_eq_true h.1), Nat.eq_of_beq_eq_true h.2]
  · simp only [Bool.and_eq_true] at h; rw [sameKind_eq h.1, Nat.eq_of_beq_eq_true h.2]
  · simp only [Bool.and_eq_true] at h; rw [Nat.eq_of_beq_eq_true h.1, eq_of_beq h.2]
  · cases h

/-- The values of a result, one after the other, by a shape. -/
noncomputable def nvK (ρ : Nat → NV) : Kd → SS → NV
  | .f _, .flt _ n => .f (ρ n).gf
  | .f k, .lit (.float _ b) => .f (can k b)
  | .i _, .int _ n => .i (ρ n).gi
  | .i _, .lit (.int _ n) => .i n
  | .b, .bool n g => .b ((ρ n).gb != g)
  | .b, .lit (.bool b) => .b b
  | _, _ => .i 0

noncomputable def okK : Kd → SS → Bool
  | .f k, .flt k' _ => Nat.beq (kn k') (kn k)
  | .f k, .lit (.float k' b) => Nat.beq (kn k') (kn k) && below k b
  | .i k, .int k' _ => sameKind k' k
  | .i k, .lit (.int k' _) => sameKind k' k
  | .b, .bool _ _ => true
  | .b, .lit (.bool _) => true
  | _, _ => false

noncomputable def nvKs (ρ : Nat → NV) : List Kd → List SS → List NV
  | k :: ks, s :: ss => nvK ρ k s :: nvKs ρ ks ss
  | _, _ => []
noncomputable def okKs : List Kd → List SS → Bool
  | [], [] => true
  | k :: ks, s :: ss => okK k s && okKs ks ss
  | _, _ => false
noncomputable def nvSh (ρ : Nat → NV) : Sh → SP → List NV
  | .one k, .one s => [nvK ρ k s]
  | .agg ks, .agg l => nvKs ρ ks l
  | _, _ => []
noncomputable def okSh : Sh → SP → Bool
  | .one k, .one s => okK k s
  | .agg ks, .agg l => okKs ks l
  | _, _ => false
noncomputable def nvShs (ρ : Nat → NV) : List Sh → List SP → List NV
  | s :: ss, x :: xs => nvSh ρ s x ++ nvShs ρ ss xs
  | _, _ => []
noncomputable def okShs : List Sh → List SP → Bool
  | [], [] => true
  | s :: ss, x :: xs => okSh s x && okShs ss xs
  | _, _ => false
noncomputable def nvR (ρ : Nat → NV) : RSh → SV → List NV
  | .p s, .p x => nvSh ρ s x
  | .tup l, .tup xs => nvShs ρ l xs
  | _, _ => []
noncomputable def okR : RSh → SV → Bool
  | .p s, .p x => okSh s x
  | .tup l, .tup xs => okShs l xs
  | _, _ => false

section
variable {Φ : Syms} {ρ : Nat → NV} {β : List Nat}

theorem okK_ok {k : Kd} {s : SS} {v : Value} (h : okK k s = true) (hv : SSm ρ β s v) : KM k v (nvK ρ k s) := by
  unfold okK at h
  split at h
  · obtain rfl := kn_inj (Nat.eq_of_beq_eq_true h)
    obtain ⟨r, rfl, hr⟩ := hv
    exact ⟨r, rfl, hr⟩
  · simp only [Bool.and_eq_true] at h
    obtain rfl := kn_inj (Nat.eq_of_beq_eq_true h.1)
    exact ⟨_, hv, FIs.self (below_lt h.2)⟩
  · obtain rfl := sameKind_eq h; exact hv
  · obtain rfl := sameKind_eq h; exact hv
  · exact hv
  · exact hv
  · cases h

theorem okKs_ok : ∀ {ks : List Kd} {ss : List SS} {vs : List Value}, okKs ks ss = true → all2 (SSm ρ β) ss vs → KMs ks vs (nvKs ρ ks ss)
  | [], [], [], _, _ => trivial
  | k :: ks, s :: ss, v :: vs, h, ⟨h1, h2⟩ => by
    simp only [okKs, Bool.and_eq_true] at h
    exact ⟨okK_ok h.1 h1, okKs_ok h.2 h2⟩
theorem okSh_ok {s : Sh} {x : SP} {v : Value} (h : okSh s x = true) (hv : SPm ρ β x v) : ShM s v (nvSh ρ s x) := by
  unfold okSh at h
  split at h
  · exact ⟨_, rfl, okK_ok h hv⟩
  · obtain ⟨cs, rfl, hl⟩ := hv; exact ⟨cs, rfl, okKs_ok h hl⟩
  · cases h
theorem okShs_ok : ∀ {ss : List Sh} {xs : List SP} {vs : List Value}, okShs ss xs = true → all2 (SPm ρ β) xs vs → ShMs ss vs (nvShs ρ ss xs)
  | [], [], [], _, _ => rfl
  | s :: ss, x :: xs, v :: vs, h, ⟨h1, h2⟩ => by
    simp only [okShs, Bool.and_eq_true] at h
    exact ⟨_, _, rfl, okSh_ok h.1 h1, okShs_ok h.2 h2⟩
theorem okR_ok {r : RSh} {x : SV} {v : Value} (h : okR r x = true) (hv : SVm ρ β x v) : RM r v (nvR ρ r x) := by
  unfold okR at h
  split at h
  · exact okSh_ok h hv
  · obtain ⟨cs, rfl, hl⟩ := hv; exact ⟨cs, rfl, okShs_ok h hl⟩
  · cases h
end

/-! ### Arguments as inputs -/

noncomputable def inK (n : Nat) : Kd → SS
  | .f k => .flt k n
  | .i k => .int k n
  | .b => .bool n false
noncomputable def inKs : Nat → List Kd → List SS
  | _, [] => []
  | n, k :: ks => inK n k :: inKs (n + 1) ks
noncomputable def inSh (n : Nat) : Sh → SV
  | .one k => .one (inK n k)
  | .agg ks => .agg (inKs n ks)
noncomputable def inShs : Nat → List Sh → List SV
  | _, [] => []
  | n, s :: r => inSh n s :: inShs (n + s.cnt) r

section
variable {ρ : Nat → NV} {β : List Nat}
theorem inK_ok {n : Nat} {k : Kd} {v : Value} {x : NV} (h : KM k v x) (hn : ρ n = x) : SSm ρ β (inK n k) v := by
  subst hn
  cases k with
  | f k => exact h
  | i k => exact h
  | b => show v = .bool (_ != false); have h' : v = .bool (ρ n).gb := h; simpa using h'
theorem inKs_ok : ∀ {ks : List Kd} {vs : List Value} {xs : List NV} {n : Nat}, KMs ks vs xs → (∀ j, j < xs.length → ρ (n + j) = xs.getD j (.i 0)) → all2 (SSm ρ β) (inKs n ks) vs
  | [], [], [], _, _, _ => trivial
  | k :: ks, v :: vs, x :: xs, n, ⟨h1, h2⟩, hn => by
    refine ⟨inK_ok h1 (by simpa using hn 0 (by simp)), inKs_ok h2 fun j hj => ?_⟩
    have := hn (j + 1) (by simpa using hj)
    rw [show n + 1 + j = n + (j + 1) by omega]
    simpa using this
theorem inSh_ok {s : Sh} {v : Value} {xs : List NV} {n : Nat} (h : ShM s v xs) (hn : ∀ j, j < xs.length → ρ (n + j) = xs.getD j (.i 0)) : SVm ρ β (inSh n s) v := by
  cases s with
  | one k => obtain ⟨x, rfl, h⟩ := h; exact inK_ok h (by simpa using hn 0 (by simp))
  | agg ks => obtain ⟨cs, rfl, h⟩ := h; exact ⟨cs, rfl, inKs_ok h hn⟩
theorem inShs_ok : ∀ {ss : List Sh} {vs : List Value} {xs : List NV} {n : Nat}, ShMs ss vs xs → (∀ j, j < xs.length → ρ (n + j) = xs.getD j (.i 0)) → all2 (SVm ρ β) (inShs n ss) vs
  | [], [], _, _, _, _ => trivial
  | s :: ss, v :: vs, xs, n, h, hn => by
    obtain ⟨x1, x2, rfl, h1, h2⟩ := h
    have hl := ShM_length h1
    refine ⟨inSh_ok h1 fun j hj => ?_, inShs_ok h2 fun j hj => ?_⟩
    · rw [hn j (by simp; omega)]
      simp [List.getD_eq_getElem?_getD, List.getElem?_append_left hj]
    · rw [show n + s.cnt + j = n + (s.cnt + j) by omega, hn (s.cnt + j) (by simp; omega)]
      simp [List.getD_eq_getElem?_getD, List.getElem?_append_right (show x1.length ≤ s.cnt + j by omega), hl]
  | [], _ :: _, _, _, h, _ => h.elim
  | _ :: _, [], _, _, h, _ => h.elim
end

/-- Inputs as an environment. -/
noncomputable def insOf (xs : List NV) : Nat → NV := fun n => xs.getD n (.i 0)

/-- A function, walked with inputs. -/
noncomputable def walkN (n : Nat) (TB : Tab) (FT : FTab) (OT : OTab) (f : FuncId) (args : List Sh) : DT (SV × St) := callDT TB FT OT n 40 0 f (inShs 0 args) ⟨.nil, [], []⟩
noncomputable abbrev walkOf (TB : Tab) (FT : FTab) (OT : OTab) (f : FuncId) (args : List Sh) : DT (SV × St) := walkN 60 TB FT OT f args

section
variable {Φ : Syms} {P : Program} {TB : Tab} {FT : FTab} {OT : OTab}

/-- What a function gives, by its walk, if no more is asked. -/
noncomputable def gives (Φ : Syms) (T : List Df) (d : DT (SV × St)) (res : RSh) (ins : List NV) : List NV :=
  match d.at_ (envT Φ (insOf ins) T) with
  | some x => nvR (envT Φ (insOf ins) T) res x.1
  | none => []

theorem called_of (hF : FTok P FT) {f : FuncId} (hb : (findF f FT).isSome = true) {vs : Array Value} {w : World} {R : Ending → World → Prop} (h : RunsOr P f vs w R) : Calls P f vs w R := by
  rcases h with ⟨_, h⟩ | ⟨v, _, hv, _⟩
  · exact h
  · cases hf : findF f FT with
    | none => rw [hf] at hb; cases hb
    | some fn =>
      have := enters (P := P) (vs := vs) (w := w) ⟨fn, hF f fn (findF_mem hf)⟩
      rw [this] at hv; cases hv

theorem walk_ok (hT : TabOK P TB) (hm : P.follows .mixedOrders = true) (hF : FTok P FT) (hO : ∀ e ∈ OT, OpqOK P Φ e) {f : FuncId} {args : List Sh} {res : RSh} {T : List Df} {R : List Nat}
    (hw : wfT (withIds T) [] = true) (hchk : (walkOf TB FT OT f args).chk T R (fun x => okR res x.1) = true) (hsz : cnts args ≤ 1000) (hb : (findF f FT).isSome = true)
    {vs : Array Value} {ins : List NV} {w : World} (hR : ∀ n ∈ R, ∀ c, (envT Φ (insOf ins) T n).gf = some c → fits c = true) (hv : ShMs args vs.toList ins) :
    Calls P f vs w fun en w' => ∃ v, en = .returned v ∧ RM res v (gives Φ T (walkOf TB FT OT f args) res ins) ∧ Stays w w' := by
  have hd : ∀ d ∈ T, envT Φ (insOf ins) T d.id = d.sem Φ (envT Φ (insOf ins) T) := envT_ok Φ (insOf ins) T [] hw (fun n hn => by simp at hn) _ fun n _ => rfl
  have h := DT.chk_at (leaf := fun x : SV × St => okR res x.1) hd hR _ hchk
  have hlen : ∀ {ss : List Sh} {vs : List Value} {xs : List NV}, ShMs ss vs xs → xs.length = cnts ss := by
    intro ss
    induction ss with
    | nil => intro vs xs h; cases vs <;> first | (cases (h : xs = []); rfl) | exact h.elim
    | cons s ss ih =>
      intro vs xs h
      cases vs with
      | nil => exact h.elim
      | cons v vs =>
        obtain ⟨x1, x2, rfl, h1, h2⟩ := h
        simp [ShM_length h1, ih h2, cnts]
  have ha : all2 (SVm (envT Φ (insOf ins) T) []) (inShs 0 args) vs.toList := inShs_ok hv fun j hj => by
    have := hlen hv
    rw [Nat.zero_add, envT_ins _ _ _ _ (by omega)]
    rfl
  have hcall := called_of hF hb (callDT_ok (ρ := envT Φ (insOf ins) T) hT hm hF hO 60 40 0 f _ ⟨.nil, [], []⟩ ⟨w, 0⟩ [] vs ⟨#[], []⟩ w _ ⟨TM.zero _ _, ⟨rfl, List.nodup_nil, fun b p _ hp => by simp at hp, fun b k hk => by simp at hk⟩, Stays.refl w, fun c x h => by simp at h, rfl⟩ ha h)
  refine hcall.mono ?_
  rintro e w' ⟨v, r, γ, rfl, ⟨hat, hok⟩, hmv, _, hst, _⟩
  refine ⟨v, rfl, ?_, hst⟩
  unfold gives
  rw [hat]
  exact okR_ok hok hmv

/-- A law: it gives true. -/
noncomputable def isTrue : SV → Bool
  | .p (.one (.lit (.bool b))) => b
  | _ => false

theorem law_ok (hT : TabOK P TB) (hm : P.follows .mixedOrders = true) (hF : FTok P FT) (hO : ∀ e ∈ OT, OpqOK P Φ e) {f : FuncId} {args : List Sh} {T : List Df}
    (hw : wfT (withIds T) [] = true) (hchk : (walkOf TB FT OT f args).chk T [] (fun x => isTrue x.1) = true) (hsz : cnts args ≤ 1000) (hb : (findF f FT).isSome = true)
    {vs : Array Value} {ins : List NV} {w : World} (hv : ShMs args vs.toList ins) :
    Calls P f vs w fun en w' => en = .returned (.bool true) ∧ Stays w w' := by
  have hchk' : (walkOf TB FT OT f args).chk T [] (fun x => okR (.p (.one .b)) x.1) = true := by
    have hmono : ∀ m : DT (SV × St), m.chk T [] (fun x => isTrue x.1) = true → m.chk T [] (fun x => okR (.p (.one .b)) x.1) = true := by
      intro m
      induction m with
      | ret x =>
        intro h
        have h : isTrue x.1 = true := h
        unfold isTrue at h
        split at h
        · rename_i b hb
          show okR _ x.1 = true
          rw [hb]; rfl
        · cases h
      | split c t e iht ihe => intro h; simp only [DT.chk, Bool.and_eq_true] at h ⊢; exact ⟨iht h.1, ihe h.2⟩
      | mk d k ih => intro h; simp only [DT.chk, Bool.and_eq_true] at h ⊢; exact ⟨h.1, ih h.2⟩
      | req g n k ih => intro h; simp only [DT.chk, Bool.and_eq_true] at h ⊢; exact ⟨h.1, ih h.2⟩
      | fail y => intro h; cases h
    exact hmono _ hchk
  have hd : ∀ d ∈ T, envT Φ (insOf ins) T d.id = d.sem Φ (envT Φ (insOf ins) T) := envT_ok Φ (insOf ins) T [] hw (fun n hn => by simp at hn) _ fun n _ => rfl
  refine (walk_ok hT hm hF hO hw hchk' hsz hb (fun n hn => by simp at hn) hv).mono ?_
  rintro e w' ⟨v, rfl, hr, hst⟩
  refine ⟨?_, hst⟩
  have hat : ∀ m : DT (SV × St), m.chk T [] (fun x => isTrue x.1) = true → ∃ x, m.at_ (envT Φ (insOf ins) T) = some x ∧ x.1 = .one (.lit (.bool true)) := by
    intro m
    induction m with
    | ret x =>
      intro h
      refine ⟨x, rfl, ?_⟩
      have h : isTrue x.1 = true := h
      unfold isTrue at h
      split at h
      · rename_i b hb; subst h; exact hb
      · cases h
    | split c t e iht ihe =>
      intro h
      simp only [DT.chk, Bool.and_eq_true] at h
      unfold DT.at_
      split
      · exact iht h.1
      · exact ihe h.2
    | mk d k ih => intro h; simp only [DT.chk, Bool.and_eq_true] at h; exact ih h.2
    | req g n k ih => intro h; simp only [DT.chk, Bool.and_eq_true] at h; exact ih h.2
    | fail y => intro h; cases h
  obtain ⟨x, hx, hx1⟩ := hat _ hchk
  unfold gives at hr
  rw [hx] at hr
  simp only [hx1] at hr
  obtain ⟨n, hn, hk⟩ := hr
  simp [nvR, nvSh, nvK] at hn
  subst hn
  exact congrArg _ hk
end

/-- The same ways with the same ends. -/
noncomputable def sameW (f : SV → SV → Bool) : DT (SV × St) → DT (SV × St) → Bool
  | .mk _ k, e => sameW f k e
  | .req _ _ k, e => sameW f k e
  | d, .mk _ k => sameW f d k
  | d, .req _ _ k => sameW f d k
  | .ret x, .ret y => f x.1 y.1
  | .split c t e, .split c' t' e' => Nat.beq c c' && (sameW f t t' && sameW f e e')
  | _, _ => false
end Go.Proofs.Ytcopccniijkceaa
