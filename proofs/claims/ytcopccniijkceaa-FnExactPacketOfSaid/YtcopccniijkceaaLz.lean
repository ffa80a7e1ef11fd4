/- Lists in memory, and functions whose walk ends in one value: what no type matters for. No condition. -/
import Derived.Test.YtcopccniijkceaaOt
import Derived.Test.YtcopccniijkceaaYf
import Derived.Test.YtcopccniijkceaaYo
import Derived.ProofKit
import Derived.Deep.Quiet
import Derived.Deep.QuietTactic
import Derived.BigQuiet
import Derived.IntWalk
import Derived.Lib.Hide
import Derived.StillTailTactics
import Derived.Laws.MakeOwn
import Derived.Deep.MidRow
import Derived.OwnWalk
import Derived.Deep.Slices
import Derived.Deep.AppendLies
namespace Go.Proofs.Ytcopccniijkceaa
open Go Go.ChangeShapes Go.WideShapes Go.RowKit
set_option linter.unusedVariables false

theorem block_add (a : Addr) (n : Nat) : (a.add n).block = a.block := by unfold Addr.add; split <;> rfl

theorem below_drewN (w : World) (k : Nat) : Below w.heap.size w (w.drewN k) := (Stays.refl w).drewN k

theorem pick {α : Type} {p : Nat → α → Prop} : ∀ n, (∀ i, i < n → ∃ a, p i a) → ∃ l : List α, l.length = n ∧ ∀ i a, l[i]? = some a → p i a
  | 0, _ => ⟨[], rfl, fun i a h => by simp at h⟩
  | n + 1, h => by
    obtain ⟨l, hl, hp⟩ := pick n fun i hi => h i (by omega)
    obtain ⟨a, ha⟩ := h n (by omega)
    refine ⟨l ++ [a], by simp [hl], fun i b hb => ?_⟩
    by_cases hi : i < n
    · rw [List.getElem?_append_left (by omega)] at hb; exact hp i b hb
    · rw [List.getElem?_append_right (by omega)] at hb
      have hi' : i = n := by
        have := (List.getElem?_eq_some_iff.1 hb).1
        simp at this
        omega
      subst hi'
      rw [hl, Nat.sub_self] at hb
      cases hb
      exact ha

theorem slice_val {P : Program} {w : World} {r : Reach} {b0 : Nat} {t e : TypeId} {v u : Value} (hu : P.underlying t = some (.slice e)) (hval : Value.okWide P w r b0 t v) (h : v.cells.toList = [u]) : v = u := by
  cases v <;> first | (simpa [Value.cells] using h) | skip
  rename_i cs
  unfold Value.okWide at hval
  rw [hu] at hval
  simp only at hval
  unfold Cell.okWide at hval
  rw [hu] at hval
  simp only at hval
  unfold Cell.ok at hval
  rw [hu] at hval
  exact hval.elim

theorem made_there (w : World) (z : Array Value) (n : Nat) (e : TypeId) : (w.alloc (.cells (madeCells z n) e)).there w.heap.size 0 n := fun j hj => by
  have hg : (w.alloc (.cells (madeCells z n) e)).heap[w.heap.size]? = some (.cells (madeCells z n) e (0, 0)) := heap_alloc_new w _
  refine ⟨?_, frozen_of_row _ _ _ _ _ hg⟩
  rw [cell_of_row _ _ _ _ _ _ hg]
  have : 0 + j < (madeCells z n).size := by rw [size_madeCells]; omega
  rw [Array.getElem?_eq_getElem this]
  rfl

theorem there_part {w : World} {b n : Nat} (h : w.there b 0 n) (o m : Nat) (hm : o + m ≤ n) : w.there b o m := fun j hj => by
  have := h (o + j) (by omega)
  rwa [Nat.zero_add] at this

theorem there_below {w w' : World} {B b n : Nat} (h : w.there b 0 n) (hb : Below B w w') (hlt : b < B) : w'.there b 0 n := fun j hj => by
  obtain ⟨h1, h2⟩ := h j hj
  exact ⟨by rw [hb.cell (p := ⟨b, 0 + j, none⟩) hlt]; exact h1, by rw [hb.frozen (p := ⟨b, 0 + j, none⟩) hlt]; exact h2⟩

theorem range_below {w w' : World} {B b o : Nat} {cs : List Value} (h : w.rangeAt b o cs) (hb : Below B w w') (hlt : b < B) : w'.rangeAt b o cs := fun j v hv => by
  rw [hb.cell (p := ⟨b, o + j, none⟩) hlt]
  exact h j v hv

theorem bel_sets {B b : Nat} {a : World} (hb : B ≤ b) : ∀ (vs : List Value) (o : Nat) (w : World), Below B a w → Below B a (w.setCells b o vs)
  | [], _, _, h => h
  | v :: r, o, w, h => by
    rw [World.setCells]
    exact bel_sets hb r (o + 1) _ (h.setCell hb v)

theorem set_snoc (g : Nat) (v : Value) : ∀ (vs : List Value) (o p : Nat) (w : World), p = o + vs.length → (w.setCells g o vs).setCell ⟨g, p, none⟩ v = w.setCells g o (vs ++ [v])
  | [], o, p, w, h => by
    simp only [List.length_nil, Nat.add_zero] at h
    subst h; rfl
  | u :: r, o, p, w, h => by
    simp only [List.length_cons] at h
    rw [List.cons_append, World.setCells, World.setCells]
    exact set_snoc g v r (o + 1) p _ (by omega)

theorem size_sets (g : Nat) : ∀ (vs : List Value) (o : Nat) (w : World), (w.setCells g o vs).heap.size = w.heap.size
  | [], _, _ => rfl
  | v :: r, o, w => by
    rw [World.setCells, size_sets g r (o + 1)]
    simp [World.setCell]

/-- A block is as it was. -/
structure Same (w w' : World) (g : Nat) : Prop where
  cell : ∀ p : Addr, p.block = g → w'.cell? p = w.cell? p
  frozen : ∀ p : Addr, p.block = g → w'.frozen? p = w.frozen? p
  size : w.heap.size ≤ w'.heap.size

theorem Same.of_below {w w' : World} {B g : Nat} (hb : Below B w w') (hs : w.heap.size ≤ w'.heap.size) (hg : g < B) : Same w w' g :=
  ⟨fun p hp => hb.cell (by rw [hp]; exact hg), fun p hp => hb.frozen (by rw [hp]; exact hg), hs⟩

theorem same_sets (g g' o : Nat) (vs : List Value) (w : World) (h : g' ≠ g) : Same w (w.setCells g o vs) g' :=
  ⟨fun p hp => World.cell?_setCells_out g vs o w p (fun e _ => absurd (hp.symm.trans e) h), fun p _ => World.frozen?_setCells g vs o w p, by rw [size_sets]; exact Nat.le_refl _⟩

theorem Same.trans {w w1 w2 : World} {g : Nat} (a : Same w w1 g) (b : Same w1 w2 g) : Same w w2 g :=
  ⟨fun p hp => (b.cell p hp).trans (a.cell p hp), fun p hp => (b.frozen p hp).trans (a.frozen p hp), Nat.le_trans a.size b.size⟩

noncomputable def endIs (r : SP) (x : SV × St) : Bool := match x.1 with
  | .p y => spB y r
  | _ => false

/-- A function at arguments of one's own choice: its walk ends in one value. -/
theorem walk_args {Φ : Syms} {P : Program} {TB : Tab} {FT : FTab} {OT : OTab} (hT : TabOK P TB) (hm : P.follows .mixedOrders = true) (hF : FTok P FT) (hO : ∀ e ∈ OT, OpqOK P Φ e) {f : FuncId} {args : List SV} {T : List Df} {r : SP}
    (hw : wfT (withIds T) [] = true) (hchk : (callDT TB FT OT 60 40 0 f args ⟨.nil, [], []⟩).chk T [] (endIs r) = true) (hb : (findF f FT).isSome = true)
    {vs : Array Value} {ins : List NV} {w : World} (ha : all2 (SVm (envT Φ (insOf ins) T) []) args vs.toList) :
    Calls P f vs w fun en w' => ∃ v γ, en = .returned v ∧ SPm (envT Φ (insOf ins) T) γ r v ∧ Stays w w' := by
  have hd : ∀ d ∈ T, envT Φ (insOf ins) T d.id = d.sem Φ (envT Φ (insOf ins) T) := envT_ok Φ (insOf ins) T [] hw (fun n hn => by simp at hn) _ fun n _ => rfl
  have h := DT.chk_ok (leaf := endIs r) hd (R := []) (fun n hn => by simp at hn) _ hchk
  have hcall := called_of hF hb (callDT_ok (ρ := envT Φ (insOf ins) T) hT hm hF hO 60 40 0 f _ ⟨.nil, [], []⟩ ⟨w, 0⟩ [] vs ⟨#[], []⟩ w _ ⟨TM.zero _ _, ⟨rfl, List.nodup_nil, fun b p _ hp => by simp at hp, fun b k hk => by simp at hk⟩, Stays.refl w, fun c x h => by simp at h, rfl⟩ ha h)
  refine hcall.mono ?_
  rintro e w' ⟨v, q, γ, rfl, hq, hmv, _, hst, _⟩
  refine ⟨v, [] ++ γ, rfl, ?_, hst⟩
  unfold endIs at hq
  split at hq
  · rename_i y hy
    have := spB_eq hq
    subst this
    rw [hy] at hmv
    exact hmv
  · cases hq

/-- A function at inputs of which something is known: its walk ends in one value. -/
theorem walk_facts {Φ : Syms} {P : Program} {TB : Tab} {FT : FTab} {OT : OTab} (hT : TabOK P TB) (hm : P.follows .mixedOrders = true) (hF : FTok P FT) (hO : ∀ e ∈ OT, OpqOK P Φ e) {f : FuncId} {shs : List Sh} {T : List Df} {r : SP} {F : List (Nat × Bool)}
    (hw : wfT (withIds T) [] = true) (hchk : (callDT TB FT OT 60 40 0 f (inShs 0 shs) ⟨.nil, [], F⟩).chk T [] (endIs r) = true) (hb : (findF f FT).isSome = true)
    {vs : Array Value} {ins : List NV} {w : World} (hf : ∀ c x, (c, x) ∈ F → (envT Φ (insOf ins) T c).gb = x) (hl : ins.length ≤ 1000) (hv : ShMs shs vs.toList ins) :
    Calls P f vs w fun en w' => ∃ v γ, en = .returned v ∧ SPm (envT Φ (insOf ins) T) γ r v ∧ Stays w w' := by
  have hd : ∀ d ∈ T, envT Φ (insOf ins) T d.id = d.sem Φ (envT Φ (insOf ins) T) := envT_ok Φ (insOf ins) T [] hw (fun n hn => by simp at hn) _ fun n _ => rfl
  have h := DT.chk_ok (leaf := endIs r) hd (R := []) (fun n hn => by simp at hn) _ hchk
  have ha : all2 (SVm (envT Φ (insOf ins) T) []) (inShs 0 shs) vs.toList := inShs_ok hv fun j hj => by
    rw [Nat.zero_add, envT_ins _ _ _ _ (by omega)]; rfl
  have hcall := called_of hF hb (callDT_ok (ρ := envT Φ (insOf ins) T) hT hm hF hO 60 40 0 f _ ⟨.nil, [], F⟩ ⟨w, 0⟩ [] vs ⟨#[], []⟩ w _ ⟨TM.zero _ _, ⟨rfl, List.nodup_nil, fun b p _ hp => by simp at hp, fun b k hk => by simp at hk⟩, Stays.refl w, hf, rfl⟩ ha h)
  refine hcall.mono ?_
  rintro e w' ⟨v, q, γ, rfl, hq, hmv, _, hst, _⟩
  refine ⟨v, [] ++ γ, rfl, ?_, hst⟩
  unfold endIs at hq
  split at hq
  · rename_i y hy
    have := spB_eq hq
    subst this
    rw [hy] at hmv
    exact hmv
  · cases hq

theorem ins_at {T : List Df} {ins : List NV} (h : ins.length ≤ 1000) (j : Nat) (hj : j < ins.length) : envT baseΦ (insOf ins) T (0 + j) = ins.getD j (.i 0) := by
  rw [Nat.zero_add, envT_ins _ _ _ _ (by omega)]; rfl

theorem KMs_back {ρ : Nat → NV} {β : List Nat} : ∀ {ks : List Kd} {vs : List Value} {xs : List NV} {n : Nat}, all2 (SSm ρ β) (inKs n ks) vs → xs.length = ks.length → (∀ j, j < xs.length → ρ (n + j) = xs.getD j (.i 0)) → KMs ks vs xs
  | [], [], [], _, _, _, _ => trivial
  | k :: ks, v :: vs, x :: xs, n, ⟨h1, h2⟩, hl, hn => by
    have h0 : ρ n = x := by simpa using hn 0 (by simp)
    refine ⟨?_, KMs_back (n := n + 1) h2 (by simpa using hl) fun j hj => ?_⟩
    · subst h0
      cases k with
      | f k => exact h1
      | i k => exact h1
      | b => have h1 : v = .bool ((ρ n).gb != false) := h1; show v = .bool (ρ n).gb; simpa using h1
    · have := hn (j + 1) (by simpa using hj)
      rw [show n + 1 + j = n + (j + 1) by omega]
      simpa using this
  | [], [], x :: xs, _, _, hl, _ => by simp at hl
  | k :: ks, v :: vs, [], _, _, hl, _ => by simp at hl

theorem bool_of {v : Value} {l : List NV} (h : RM (.p (.one .b)) v l) : v = .bool (l.getD 0 (.i 0)).gb := by
  obtain ⟨n, rfl, h⟩ := h
  exact h

/-- The cells of a row. -/
def cellAt (p : Addr) : Nat → Addr
  | 0 => p
  | j + 1 => ⟨p.block, p.off + (j + 1), none⟩

/-- What lies at an address: a row of cells of given kinds. -/
def RowAt (K : List Kd) (w : World) (p : Addr) (r : List NV) : Prop := ∃ cs, KMs K cs r ∧ ∀ j u, cs[j]? = some u → w.cell? (cellAt p j) = some u

theorem RowAt.below {K : List Kd} {w w' : World} {B : Nat} {p : Addr} {r : List NV} (h : RowAt K w p r) (hb : Below B w w') (hp : p.block < B) : RowAt K w' p r := by
  obtain ⟨cs, hk, hc⟩ := h
  refine ⟨cs, hk, fun j u hu => ?_⟩
  have : (cellAt p j).block = p.block := by cases j <;> rfl
  rw [hb.cell (p := cellAt p j) (by rw [this]; exact hp)]
  exact hc j u hu

/-- A list that lies in memory below a block. -/
def Rows {α : Type} (K : List Kd) (n : Nat) (f : α → List NV) (w : World) (B : Nat) (A : Option Addr) (xs : List α) : Prop :=
  ∀ i r, xs[i]? = some r → ∃ ad, A = some ad ∧ ad.block < B ∧ RowAt K w (ad.add (i * n)) (f r)

theorem Rows.below {α : Type} {K : List Kd} {n : Nat} {f : α → List NV} {w w' : World} {B : Nat} {A : Option Addr} {xs : List α} (h : Rows K n f w B A xs) (hb : Below B w w') : Rows K n f w' B A xs := fun i r hr => by
  obtain ⟨ad, e, hlt, h⟩ := h i r hr
  exact ⟨ad, e, hlt, h.below hb (by rw [block_add]; exact hlt)⟩

theorem Rows.more {α : Type} {K : List Kd} {n : Nat} {f : α → List NV} {w : World} {B B' : Nat} {A : Option Addr} {xs : List α} (h : Rows K n f w B A xs) (hB : B ≤ B') : Rows K n f w B' A xs := fun i r hr => by
  obtain ⟨ad, e, hlt, h⟩ := h i r hr
  exact ⟨ad, e, by omega, h⟩

theorem KM_one {k : Kd} {v : Value} {n : NV} (h : KM k v n) : v.oneCell' = true := by
  cases k with
  | f k => obtain ⟨r, rfl, _⟩ := h; rfl
  | i k => have h : v = .int k n.gi := h; subst h; rfl
  | b => have h : v = .bool n.gb := h; subst h; rfl

theorem KMs_one : ∀ {K : List Kd} {cs : List Value} {r : List NV}, KMs K cs r → ∀ v ∈ cs, v.oneCell' = true
  | [], [], [], _, v, hv => by simp at hv
  | k :: K, c :: cs, n :: r, ⟨h1, h2⟩, v, hv => by
    rcases List.mem_cons.1 hv with rfl | hv
    · exact KM_one h1
    · exact KMs_one h2 v hv

theorem KMs_len : ∀ {K : List Kd} {cs : List Value} {r : List NV}, KMs K cs r → cs.length = K.length
  | [], [], [], _ => rfl
  | k :: K, c :: cs, n :: r, ⟨_, h2⟩ => by simp [KMs_len h2]

/-- The first k rows lie in a block of the function's own. -/
structure Put {α : Type} (K : List Kd) (n : Nat) (f : α → List NV) (w wr : World) (xs : List α) (k : Nat) : Prop where
  below : Below w.heap.size w wr
  there : wr.there w.heap.size 0 (xs.length * n)
  lt : w.heap.size < wr.heap.size
  rows : ∀ i r, i < k → xs[i]? = some r → ∃ cs, KMs K cs (f r) ∧ wr.rangeAt w.heap.size (i * n) cs

theorem Put.next {α : Type} {K : List Kd} {n : Nat} {f : α → List NV} {w wr w3 : World} {xs : List α} {k : Nat} {r : α} {cs : Array Value} (h : Put K n f w wr xs k) (hK : K.length = n) (hb : Below wr.heap.size wr w3) (hr : xs[k]? = some r) (hc : KMs K cs.toList (f r)) (h0 : 0 < n) :
    (storeCells ⟨w.heap.size, k * n, none⟩ cs.toList).run Try.prog w3 = .ok () (w3.setCells w.heap.size (k * n) cs.toList) ∧ Put K n f w (w3.setCells w.heap.size (k * n) cs.toList) xs (k + 1) := by
  have hk : k < xs.length := (List.getElem?_eq_some_iff.1 hr).1
  have hlen : cs.toList.length = n := (KMs_len hc).trans hK
  have hm : k * n + n ≤ xs.length * n := by rw [← Nat.succ_mul]; exact Nat.mul_le_mul_right n hk
  have ht := there_below h.there hb h.lt
  have htk : w3.there w.heap.size (k * n) cs.toList.length := there_part ht _ _ (by rw [hlen]; exact hm)
  have hrun := run_storeCells_cells (P := Try.prog) w.heap.size (k * n) cs.toList 0 w3 (fun j hj => by rw [Nat.add_zero]; exact (htk j hj).1) (fun j hj => by rw [Nat.add_zero]; exact (htk j hj).2) (KMs_one hc)
  rw [Nat.add_zero] at hrun
  refine ⟨hrun, bel_sets (Nat.le_refl _) _ _ _ (h.below.trans (hb.mono h.below.size)), World.there_setCells ht _ _ _, ?_, ?_⟩
  · rw [size_sets]; exact Nat.lt_of_lt_of_le h.lt hb.size
  · intro i r' hi hr'
    by_cases e : i = k
    · subst e
      rw [hr] at hr'
      cases hr'
      exact ⟨_, hc, World.rangeAt_setCells_same _ _ _ _ htk⟩
    · obtain ⟨cs', hk', hrow⟩ := h.rows i r' (by omega) hr'
      have hlen' : cs'.length = n := (KMs_len hk').trans hK
      refine ⟨cs', hk', World.rangeAt_setCells_apart (range_below hrow hb h.lt) _ _ _ (Or.inr (Or.inl ?_))⟩
      rw [hlen', ← Nat.succ_mul]
      exact Nat.mul_le_mul_right n (by omega)

/-- A list in a block of its own, or an empty one. -/
def LiesR {α : Type} (K : List Kd) (n : Nat) (f : α → List NV) (w : World) (g : Nat) (v : Value) (xs : List α) : Prop :=
  ∃ A c, v = .slice A xs.length c ∧ (xs ≠ [] → A = some ⟨g, 0, none⟩ ∧ g < w.heap.size ∧ w.there g 0 (xs.length * n) ∧ ∀ i r, xs[i]? = some r → ∃ cs, KMs K cs (f r) ∧ w.rangeAt g (i * n) cs)

theorem LiesR.on {α : Type} {K : List Kd} {n : Nat} {f : α → List NV} {w w' : World} {g : Nat} {v : Value} {xs : List α} (h : LiesR K n f w g v xs) (hs : g < w.heap.size → Same w w' g) : LiesR K n f w' g v xs := by
  obtain ⟨A, c, e, h⟩ := h
  refine ⟨A, c, e, fun hx => ?_⟩
  obtain ⟨h1, h2, h3, h4⟩ := h hx
  have S := hs h2
  refine ⟨h1, Nat.lt_of_lt_of_le h2 S.size, fun j hj => ?_, fun i r hr => ?_⟩
  · rw [S.cell _ rfl, S.frozen _ rfl]; exact h3 j hj
  · obtain ⟨cs, hk, hrow⟩ := h4 i r hr
    exact ⟨cs, hk, fun j u hu => by rw [S.cell _ rfl]; exact hrow j u hu⟩

theorem LiesR.below {α : Type} {K : List Kd} {n : Nat} {f : α → List NV} {w w' : World} {g : Nat} {v : Value} {xs : List α} (h : LiesR K n f w g v xs) (hb : Below w.heap.size w w') : LiesR K n f w' g v xs := h.on fun hlt => Same.of_below hb hb.size hlt

theorem RowAt.of_range {K : List Kd} {w : World} {g o : Nat} {cs : List Value} {r : List NV} (hk : KMs K cs r) (h : w.rangeAt g o cs) : RowAt K w ⟨g, o, none⟩ r :=
  ⟨cs, hk, fun j u hu => by cases j with
    | zero => exact h 0 u hu
    | succ j => exact h (j + 1) u hu⟩

theorem zero_add_addr (g m : Nat) : (⟨g, 0, none⟩ : Addr).add m = ⟨g, m, none⟩ := by
  unfold Addr.add
  split
  · rename_i h0; rw [h0]
  · rw [Nat.zero_add]

theorem LiesR.rows {α : Type} {K : List Kd} {n : Nat} {f : α → List NV} {w : World} {g c : Nat} {A : Option Addr} {xs : List α} (h : LiesR K n f w g (.slice A xs.length c) xs) : Rows K n f w w.heap.size A xs := fun i r hr => by
  obtain ⟨A', c', e, h⟩ := h
  cases e
  obtain ⟨rfl, h2, h3, h4⟩ := h (fun e => by rw [e] at hr; simp at hr)
  obtain ⟨cs, hk, hrow⟩ := h4 i r hr
  exact ⟨⟨g, 0, none⟩, rfl, h2, by rw [zero_add_addr]; exact RowAt.of_range hk hrow⟩

theorem Put.lies {α : Type} {K : List Kd} {n : Nat} {f : α → List NV} {w wr : World} {xs : List α} (h : Put K n f w wr xs xs.length) : LiesR K n f wr w.heap.size (.slice (some ⟨w.heap.size, 0, none⟩) xs.length xs.length) xs :=
  ⟨_, _, rfl, fun _ => ⟨rfl, h.lt, h.there, fun i r hr => h.rows i r (List.getElem?_eq_some_iff.1 hr).1 hr⟩⟩

theorem LiesR.lt {α : Type} {K : List Kd} {n : Nat} {f : α → List NV} {w : World} {g : Nat} {v : Value} {xs : List α} (h : LiesR K n f w g v xs) (hx : xs ≠ []) : g < w.heap.size := by
  obtain ⟨A, c, e, h⟩ := h
  exact (h hx).2.1
end Go.Proofs.Ytcopccniijkceaa
