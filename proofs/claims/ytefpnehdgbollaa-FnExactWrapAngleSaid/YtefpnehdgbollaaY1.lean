/- A symbolic walk of a function's text, as a function that the kernel can run: its data, and what they stand for. No condition. -/
import Derived.Test.YtefpnehdgbollaaFw
import Derived.Laws.Tables
import Derived.Deep.MidRow
namespace Go.Proofs.Ytefpnehdgbollaa
open Go Go.RowKit
set_option linter.unusedVariables false

/-! ### Nodes -/

inductive NV where
  | f (o : Option Nat)
  | i (n : Int)
  | b (x : Bool)

def NV.gf : NV → Option Nat | .f o => o | _ => none
def NV.gi : NV → Int | .i n => n | _ => 0
def NV.gb : NV → Bool | .b x => x | _ => false

/-- What a node is made of. -/
structure Df where
  op : Nat
  imm : Nat
  args : List Nat

abbrev Syms := Nat → List NV → NV

def mix1 (s x : Nat) : Nat := (s * (s + 3935559000370003845) + x) % 2305843009213693951
def mixL (h : Nat) : List Nat → Nat
  | [] => h
  | x :: r => mixL (mix1 (h * 6364136223846793005 + x + 1442695040888963407) x) r

def Df.id (d : Df) : Nat := mixL 77 (d.op :: d.imm :: d.args) + 1000

def kf : Nat → FloatKind | 0 => .f32 | _ => .f64
def kn : FloatKind → Nat | .f32 => 0 | .f64 => 1
theorem kf_kn (k : FloatKind) : kf (kn k) = k := by cases k <;> rfl

/-- op: 0 to 3: arithmetic (imm: the width); 4: a constant (args: width; imm: bits, as it is written); 5: widened; 6: narrowed; 7: the opposite (imm: width); 8 to 12: order (imm: width); 13: an integer is imm; 14, 15: negated; 16, 17: integers; 18, 19: Booleans; 20: a symbol; 21: equal integers; 22: all; 23: equal Booleans. -/
def Df.sem (Φ : Syms) (ρ : Nat → NV) (d : Df) : NV :=
  let a := ρ (d.args.getD 0 0)
  let b := ρ (d.args.getD 1 0)
  match d.op with
  | 0 => .f (fop .add (kf d.imm) a.gf b.gf)
  | 1 => .f (fop .sub (kf d.imm) a.gf b.gf)
  | 2 => .f (fop .mul (kf d.imm) a.gf b.gf)
  | 3 => .f (fop .quo (kf d.imm) a.gf b.gf)
  | 4 => .f (can .f32 d.imm)
  | 5 => .f (can .f64 d.imm)
  | 6 => .f (a.gf.map wide)
  | 7 => .f (a.gf.map slim)
  | 8 => .b (ford (kf d.imm) a.gf b.gf == some .eq)
  | 9 => .b (ford (kf d.imm) a.gf b.gf == some .lt)
  | 10 => .b (ford (kf d.imm) a.gf b.gf == some .lt || ford (kf d.imm) a.gf b.gf == some .eq)
  | 11 => .b (ford (kf d.imm) a.gf b.gf == some .gt)
  | 12 => .b (ford (kf d.imm) a.gf b.gf == some .gt || ford (kf d.imm) a.gf b.gf == some .eq)
  | 13 => .b (a.gi == (d.imm : Int))
  | 14 => .f (a.gf.map (Op.negFloat .f32))
  | 15 => .f (a.gf.map (Op.negFloat .f64))
  | 16 => .i d.imm
  | 17 => .i (-(d.imm : Int))
  | 18 => .b (d.imm != 0)
  | 19 => .b (!a.gb)
  | 21 => .b (a.gi == b.gi)
  | 22 => .b (d.args.all fun n => (ρ n).gb)
  | 23 => .b (a.gb == b.gb)
  | _ => Φ d.imm (d.args.map ρ)

/-! ### Values -/

inductive SS where
  | lit (v : Value)
  | flt (k : FloatKind) (n : Nat)
  | int (k : IntKind) (n : Nat)
  | bool (n : Nat) (neg : Bool)
  | ptr (b off : Nat)

inductive SP where
  | one (s : SS)
  | agg (l : List SS)

inductive SV where
  | p (x : SP)
  | tup (l : List SP)

abbrev SV.one (s : SS) : SV := .p (.one s)
abbrev SV.agg (l : List SS) : SV := .p (.agg l)

structure Blk where
  cells : List SS
  t : TypeId

structure St where
  tmps : List SV
  heap : List Blk
  facts : List (Nat × Bool)

def all2 {α β : Type} (R : α → β → Prop) : List α → List β → Prop
  | [], [] => True
  | a :: l, b :: m => R a b ∧ all2 R l m
  | _, _ => False

section
variable {α β : Type} {R R' : α → β → Prop}

theorem all2.mono (h : ∀ a b, R a b → R' a b) : ∀ {l : List α} {m : List β}, all2 R l m → all2 R' l m
  | [], [], _ => trivial
  | _ :: _, _ :: _, ⟨h1, h2⟩ => ⟨h _ _ h1, all2.mono h h2⟩
theorem all2.length : ∀ {l : List α} {m : List β}, all2 R l m → l.length = m.length
  | [], [], _ => rfl
  | _ :: _, _ :: _, ⟨_, h2⟩ => by simp [h2.length]
theorem all2.get? : ∀ {l : List α} {m : List β} (i : Nat) {a : α}, all2 R l m → l[i]? = some a → ∃ b, m[i]? = some b ∧ R a b
  | [], [], i, a, _, h => by simp at h
  | x :: l, y :: m, 0, a, ⟨h1, _⟩, h => ⟨y, rfl, by simp at h; exact h ▸ h1⟩
  | x :: l, y :: m, i + 1, a, ⟨_, h2⟩, h => by simpa using all2.get? i h2 (by simpa using h)
theorem all2.getD {a0 : α} {b0 : β} (h0 : R a0 b0) : ∀ {l : List α} {m : List β} (i : Nat), all2 R l m → R (l.getD i a0) (m.getD i b0)
  | [], [], i, _ => by simpa using h0
  | x :: l, y :: m, 0, ⟨h1, _⟩ => by simpa using h1
  | x :: l, y :: m, i + 1, ⟨_, h2⟩ => by simpa using all2.getD h0 i h2
theorem all2.set {a : α} {b : β} (hab : R a b) : ∀ {l : List α} {m : List β} (i : Nat), all2 R l m → all2 R (l.set i a) (m.set i b)
  | [], [], i, _ => trivial
  | x :: l, y :: m, 0, ⟨_, h2⟩ => ⟨hab, h2⟩
  | x :: l, y :: m, i + 1, ⟨h1, h2⟩ => ⟨h1, all2.set hab i h2⟩
theorem all2.drop : ∀ {l : List α} {m : List β} (i : Nat), all2 R l m → all2 R (l.drop i) (m.drop i)
  | [], [], i, _ => by simp [all2]
  | x :: l, y :: m, 0, h => h
  | x :: l, y :: m, i + 1, ⟨_, h2⟩ => by simpa using all2.drop i h2
theorem all2.take : ∀ {l : List α} {m : List β} (i : Nat), all2 R l m → all2 R (l.take i) (m.take i)
  | [], [], i, _ => by simp [all2]
  | x :: l, y :: m, 0, h => by simp [all2]
  | x :: l, y :: m, i + 1, ⟨h1, h2⟩ => by simpa using ⟨h1, all2.take i h2⟩
theorem all2.append : ∀ {l : List α} {m : List β} {l' : List α} {m' : List β}, all2 R l m → all2 R l' m' → all2 R (l ++ l') (m ++ m')
  | [], [], _, _, _, h => h
  | x :: l, y :: m, _, _, ⟨h1, h2⟩, h => ⟨h1, h2.append h⟩
theorem all2.forall_right {p : β → Prop} (h : ∀ a b, R a b → p b) : ∀ {l : List α} {m : List β}, all2 R l m → ∀ b ∈ m, p b
  | [], [], _, b, hb => by simp at hb
  | x :: l, y :: m, ⟨h1, h2⟩, b, hb => by
    rcases List.mem_cons.1 hb with rfl | hb
    · exact h _ _ h1
    · exact h2.forall_right h b hb
end

def okCell : SS → Bool
  | .lit v => v.oneCell'
  | _ => true

def SSm (ρ : Nat → NV) (β : List Nat) : SS → Value → Prop
  | .lit v, x => x = v
  | .flt k n, x => ∃ r, x = .float k r ∧ FIs k r (ρ n).gf
  | .int k n, x => x = .int k (ρ n).gi
  | .bool n neg, x => x = .bool ((ρ n).gb != neg)
  | .ptr b off, x => ∃ p, β[b]? = some p ∧ x = .pointer (some ⟨p, off, none⟩)

def SPm (ρ : Nat → NV) (β : List Nat) : SP → Value → Prop
  | .one s, x => SSm ρ β s x
  | .agg l, x => ∃ cs, x = .agg cs ∧ all2 (SSm ρ β) l cs.toList

def SVm (ρ : Nat → NV) (β : List Nat) : SV → Value → Prop
  | .p s, x => SPm ρ β s x
  | .tup l, x => ∃ cs, x = .tuple cs ∧ all2 (SPm ρ β) l cs.toList

theorem SSm.ext {ρ : Nat → NV} {β : List Nat} (γ : List Nat) {s : SS} {x : Value} (h : SSm ρ β s x) : SSm ρ (β ++ γ) s x := by
  cases s <;> first | exact h | skip
  obtain ⟨p, hp, hx⟩ := h
  refine ⟨p, ?_, hx⟩
  rw [List.getElem?_append_left (List.getElem?_eq_some_iff.1 hp).1]
  exact hp
theorem SPm.ext {ρ : Nat → NV} {β : List Nat} (γ : List Nat) {s : SP} {x : Value} (h : SPm ρ β s x) : SPm ρ (β ++ γ) s x := by
  cases s
  · exact SSm.ext γ h
  · obtain ⟨cs, hx, hl⟩ := h
    exact ⟨cs, hx, hl.mono fun _ _ => SSm.ext γ⟩
theorem SVm.ext {ρ : Nat → NV} {β : List Nat} (γ : List Nat) {s : SV} {x : Value} (h : SVm ρ β s x) : SVm ρ (β ++ γ) s x := by
  cases s
  · exact SPm.ext γ h
  · obtain ⟨cs, hx, hl⟩ := h
    exact ⟨cs, hx, hl.mono fun _ _ => SPm.ext γ⟩

def svOf : Value → SV
  | .agg cs => .agg (cs.toList.map .lit)
  | v => .one (.lit v)

theorem all2_lit (ρ : Nat → NV) (β : List Nat) : ∀ l : List Value, all2 (SSm ρ β) (l.map .lit) l
  | [] => trivial
  | _ :: l => ⟨rfl, all2_lit ρ β l⟩

theorem svOf_m (ρ : Nat → NV) (β : List Nat) (v : Value) : SVm ρ β (svOf v) v := by
  cases v <;> first | exact rfl | skip
  rename_i cs
  exact ⟨cs, rfl, all2_lit ρ β _⟩

/-- The blocks that are known lie where β says. -/
def HeapAt (ρ : Nat → NV) (β : List Nat) (h : List Blk) (w : World) : Prop :=
  ∀ (b : Nat) (k : Blk), h[b]? = some k → ∃ p cs, β[b]? = some p ∧ w.heap[p]? = some (.cells cs k.t (0, 0)) ∧ all2 (SSm ρ β) k.cells cs.toList

theorem HeapAt.on {ρ : Nat → NV} {β : List Nat} {h : List Blk} {w w' : World} (H : HeapAt ρ β h w) (hs : Stays w w') : HeapAt ρ β h w' := fun b k hb => by
  obtain ⟨p, cs, h1, h2, h3⟩ := H b k hb
  exact ⟨p, cs, h1, hs.heap (Array.getElem?_eq_some_iff.1 h2).1 h2, h3⟩

theorem HeapAt.ext {ρ : Nat → NV} {β : List Nat} {h : List Blk} {w : World} (γ : List Nat) (H : HeapAt ρ β h w) : HeapAt ρ (β ++ γ) h w := fun b k hb => by
  obtain ⟨p, cs, h1, h2, h3⟩ := H b k hb
  refine ⟨p, cs, ?_, h2, h3.mono fun _ _ => SSm.ext γ⟩
  rw [List.getElem?_append_left (List.getElem?_eq_some_iff.1 h1).1]
  exact h1

/-- The same, each not below B, and all apart. -/
structure HeapM (ρ : Nat → NV) (B : Nat) (β : List Nat) (h : List Blk) (w : World) : Prop where
  len : β.length = h.length
  nodup : β.Nodup
  own : ∀ p ∈ β, B ≤ p
  at_ : HeapAt ρ β h w

theorem HeapM.on {ρ : Nat → NV} {B : Nat} {β : List Nat} {h : List Blk} {w w' : World} (H : HeapM ρ B β h w) (hs : Stays w w') : HeapM ρ B β h w' :=
  ⟨H.len, H.nodup, H.own, H.at_.on hs⟩

/-! ### Ways -/

inductive DT (α : Type) where
  | ret (x : α)
  | split (c : Nat) (t e : DT α)
  | mk (d : Df) (k : DT α)
  | req (tag n : Nat) (k : DT α)
  | fail (why : Nat)

def DT.bind {α β : Type} : DT α → (α → DT β) → DT β
  | .ret x, f => f x
  | .split c t e, f => .split c (t.bind f) (e.bind f)
  | .mk d k, f => .mk d (k.bind f)
  | .req g n k, f => .req g n (k.bind f)
  | .fail y, _ => .fail y

/-- What is asked of a node: 0: that it can be narrowed; 1: a wide number not less than 0; 2: no NaN; 3: that it is so. -/
def Asked : Nat → NV → Prop
  | 0, v => ∀ c, v.gf = some c → fits c = true
  | 1, v => ∃ c, v.gf = some c ∧ c < 2 ^ 63
  | 2, v => v.gf ≠ none
  | _, v => v.gb = true

def DT.holds {α : Type} (Φ : Syms) (ρ : Nat → NV) : DT α → (α → Prop) → Prop
  | .ret x, Q => Q x
  | .split c t e, Q => if (ρ c).gb = true then t.holds Φ ρ Q else e.holds Φ ρ Q
  | .mk d k, Q => ρ d.id = d.sem Φ ρ ∧ k.holds Φ ρ Q
  | .req g n k, Q => Asked g (ρ n) ∧ k.holds Φ ρ Q
  | .fail _, _ => False

theorem DT.holds_bind {α β : Type} {Φ : Syms} {ρ : Nat → NV} {f : α → DT β} {Q : β → Prop} : ∀ m : DT α, (m.bind f).holds Φ ρ Q → m.holds Φ ρ fun x => (f x).holds Φ ρ Q
  | .ret x, h => h
  | .split c t e, h => by
    unfold DT.bind DT.holds at h
    unfold DT.holds
    split
    · rename_i hc; rw [if_pos hc] at h; exact DT.holds_bind t h
    · rename_i hc; rw [if_neg hc] at h; exact DT.holds_bind e h
  | .mk d k, h => ⟨h.1, DT.holds_bind k h.2⟩
  | .req g n k, h => ⟨h.1, DT.holds_bind k h.2⟩
  | .fail y, h => h

theorem DT.holds_bind' {α β : Type} {Φ : Syms} {ρ : Nat → NV} {f : α → DT β} {Q : β → Prop} : ∀ m : DT α, m.holds Φ ρ (fun x => (f x).holds Φ ρ Q) → (m.bind f).holds Φ ρ Q
  | .ret x, h => h
  | .split c t e, h => by
    unfold DT.holds at h
    unfold DT.bind DT.holds
    split
    · rename_i hc; rw [if_pos hc] at h; exact DT.holds_bind' t h
    · rename_i hc; rw [if_neg hc] at h; exact DT.holds_bind' e h
  | .mk d k, h => ⟨h.1, DT.holds_bind' k h.2⟩
  | .req g n k, h => ⟨h.1, DT.holds_bind' k h.2⟩
  | .fail y, h => h

theorem DT.holds_mono {α : Type} {Φ : Syms} {ρ : Nat → NV} {Q Q' : α → Prop} (hq : ∀ x, Q x → Q' x) : ∀ m : DT α, m.holds Φ ρ Q → m.holds Φ ρ Q'
  | .ret x, h => hq _ h
  | .split c t e, h => by
    unfold DT.holds at h ⊢
    split
    · rename_i hc; rw [if_pos hc] at h; exact DT.holds_mono hq t h
    · rename_i hc; rw [if_neg hc] at h; exact DT.holds_mono hq e h
  | .mk d k, h => ⟨h.1, DT.holds_mono hq k h.2⟩
  | .req g n k, h => ⟨h.1, DT.holds_mono hq k h.2⟩
  | .fail y, h => h

/-- The way that is gone has one end. -/
theorem DT.holds_leaf {α : Type} {Φ : Syms} {ρ : Nat → NV} {Q : α → Prop} : ∀ m : DT α, m.holds Φ ρ Q → ∃ x, Q x ∧ m.holds Φ ρ fun y => y = x
  | .ret x, h => ⟨x, h, rfl⟩
  | .split c t e, h => by
    unfold DT.holds at h ⊢
    split
    · rename_i hc; rw [if_pos hc] at h; exact DT.holds_leaf t h
    · rename_i hc; rw [if_neg hc] at h; exact DT.holds_leaf e h
  | .mk d k, h => by obtain ⟨x, h1, h2⟩ := DT.holds_leaf k h.2; exact ⟨x, h1, h.1, h2⟩
  | .req g n k, h => by obtain ⟨x, h1, h2⟩ := DT.holds_leaf k h.2; exact ⟨x, h1, h.1, h2⟩
  | .fail y, h => h.elim

/-- The nodes that are made, then the end. -/
def DT.mks {α : Type} : List Df → DT α → DT α
  | [], k => k
  | d :: r, k => .mk d (DT.mks r k)

theorem DT.holds_mks {α : Type} {Φ : Syms} {ρ : Nat → NV} {Q : α → Prop} : ∀ (ds : List Df) (k : DT α), (DT.mks ds k).holds Φ ρ Q → (∀ d ∈ ds, ρ d.id = d.sem Φ ρ) ∧ k.holds Φ ρ Q
  | [], k, h => ⟨fun d hd => by simp at hd, h⟩
  | d :: r, k, h => by
    obtain ⟨h1, h2⟩ := DT.holds_mks r k h.2
    refine ⟨fun d' hd => ?_, h2⟩
    rcases List.mem_cons.1 hd with rfl | hd
    · exact h.1
    · exact h1 d' hd

end Go.Proofs.Ytefpnehdgbollaa
