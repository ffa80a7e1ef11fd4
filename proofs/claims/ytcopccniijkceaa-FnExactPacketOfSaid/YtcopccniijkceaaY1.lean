/- A symbolic walk of a function's text, as a function that the kernel can run: its data, and what they stand for. No condition. -/
import Derived.Test.YtcopccniijkceaaFw
import Derived.Laws.Tables
import Derived.Deep.MidRow
namespace Go.Proofs.Ytcopccniijkceaa
open Go Go.RowKit
set_option linter.unusedVariables false

/-! ### Nodes -/

inductive NV where
  | f (o : Option Nat)
  | i (n : Int)
  | b (x : Bool)

def NV.gf : NV → Option Nat | .f o => o | _ => none
def NV.gi : NV → Int | .i n => n | _ => 0
def NV.gb : NV → Bool | .b x => x | _ => false

def ik : Nat → IntKind | 0 => .i8 | 1 => .i16 | 2 => .i32 | 3 => .i64 | 4 => .u8 | 5 => .u16 | 6 => .u32 | _ => .u64
def ikn : IntKind → Nat | .i8 => 0 | .i16 => 1 | .i32 => 2 | .i64 => 3 | .u8 => 4 | .u16 => 5 | .u32 => 6 | .u64 => 7
theorem ik_ikn (k : IntKind) : ik (ikn k) = k := by cases k <;> rfl

/-- The integer of a number, towards zero. -/
def truncI (k : FloatKind) (o : Option Nat) : Option Int := match o with
  | some b => (k.decode b).toInt .zero
  | none => none

/-- What a node is made of. -/
structure Df where
  op : Nat
  imm : Nat
  args : List Nat

abbrev Syms := Nat → List NV → NV

def mix1 (s x : Nat) : Nat := Nat.mod (Nat.add (Nat.mul s (Nat.add s 3935559000370003845)) x) 2305843009213693951
noncomputable def mixL (h : Nat) (l : List Nat) : Nat := List.rec (motive := fun _ => Nat → Nat) (fun h => h) (fun x _ ih h => ih (mix1 (Nat.add (Nat.add (Nat.mul h 6364136223846793005) x) 1442695040888963407) x)) l h

noncomputable def Df.id (d : Df) : Nat := Nat.add (mixL 77 (d.op :: d.imm :: d.args)) 1000

def kf : Nat → FloatKind | 0 => .f32 | _ => .f64
def kn : FloatKind → Nat | .f32 => 0 | .f64 => 1
theorem kf_kn (k : FloatKind) : kf (kn k) = k := by cases k <;> rfl

/-- op: 0 to 3: arithmetic (imm: the width); 4: a constant (args: width; imm: bits, as it is written); 5: widened; 6: narrowed; 7: the opposite (imm: width); 8 to 12: order (imm: width); 13: an integer is imm; 14, 15: negated; 16, 17: integers; 18, 19: Booleans; 20: a symbol; 21: equal integers; 22: all; 23: equal Booleans; 24, 25: the second or the third one, as the first one tells; 26, 27: an integer is less, greater than imm; 28: less; 29: the rest; 30 to 33: arithmetic on integers (imm: the kind); 34: turned into a kind; 35, 36: into a number; 37: a number's integer. -/
def Df.sem (Φ : Syms) (ρ : Nat → NV) (d : Df) : NV :=
  let a := ρ (d.args.getD 0 0)
  let b := ρ (d.args.getD 1 0)
  match d.op with
  | 0 => .f (fop .add (kf d.imm) a.gf b.gf)
  | 1 => .f (fop .sub (kf d.imm) a.gf b.gf)
  | 2 => .f (fop .mul (kf d.imm) a.gf b.gf)
  | 3 => .f (fop .quo (kf d.imm) a.gf b.gf)
  | 4 => .f (can .f32 d.imm)
  | 5 => .f (can .f64 d.imm)
  | 6 => .f (a.gf.map wide)
  | 7 => .f (a.gf.map slim)
  | 8 => .b (ford (kf d.imm) a.gf b.gf == some .eq)
  | 9 => .b (ford (kf d.imm) a.gf b.gf == some .lt)
  | 10 => .b (ford (kf d.imm) a.gf b.gf == some .lt || ford (kf d.imm) a.gf b.gf == some .eq)
  | 11 => .b (ford (kf d.imm) a.gf b.gf == some .gt)
  | 12 => .b (ford (kf d.imm) a.gf b.gf == some .gt || ford (kf d.imm) a.gf b.gf == some .eq)
  | 13 => .b (a.gi == (d.imm : Int))
  | 14 => .f (a.gf.map (Op.negFloat .f32))
  | 15 => .f (a.gf.map (Op.negFloat .f64))
  | 16 => .i d.imm
  | 17 => .i (-(d.imm : Int))
  | 18 => .b (d.imm != 0)
  | 19 => .b (!a.gb)
  | 21 => .b (a.gi == b.gi)
  | 24 => .f (if a.gb then b.gf else (ρ (d.args.getD 2 0)).gf)
  | 25 => .b (if a.gb then b.gb else (ρ (d.args.getD 2 0)).gb)
  | 26 => .b (decide (a.gi < (d.imm : Int)))
  | 27 => .b (decide ((d.imm : Int) < a.gi))
  | 28 => .b (decide (a.gi < b.gi))
  | 29 => .i (a.gi.tmod b.gi)
  | 30 => .i ((ik d.imm).wrap (a.gi + b.gi))
  | 31 => .i ((ik d.imm).wrap (a.gi - b.gi))
  | 32 => .i ((ik d.imm).wrap (a.gi * b.gi))
  | 33 => .i ((ik d.imm).wrap (a.gi.tdiv b.gi))
  | 34 => .i ((ik d.imm).wrap a.gi)
  | 35 => .f (can .f32 (FloatKind.f32.nearest a.gi))
  | 36 => .f (can .f64 (FloatKind.f64.nearest a.gi))
  | 37 => .i ((truncI (kf d.imm) a.gf).getD 0)
  | 22 => .b (d.args.all fun n => (ρ n).gb)
  | 23 => .b (a.gb == b.gb)
  | _ => Φ d.imm (d.args.map ρ)

/-! ### Values -/

inductive SS where
  | lit (v : Value)
  | flt (k : FloatKind) (n : Nat)
  | int (k : IntKind) (n : Nat)
  | bool (n : Nat) (neg : Bool)
  | ptr (b off : Nat)
  | slc (b off len cap : Nat)
  | unk

inductive SP where
  | one (s : SS)
  | agg (l : List SS)

/-- clo: a function with the values that it holds, the first ones and the caught ones. -/
inductive SV where
  | p (x : SP)
  | tup (l : List SP)
  | clo (g : Nat) (first cap : List SP)

abbrev SV.one (s : SS) : SV := .p (.one s)
abbrev SV.agg (l : List SS) : SV := .p (.agg l)

structure Blk where
  cells : List SS
  t : TypeId

/-- The temporaries, as a tree: 0 at the root, odd ones on the left. -/
inductive Tr where
  | nil
  | node (v : SV) (l r : Tr)

abbrev undefS : SV := .one (.lit undef)

noncomputable def Tr.get (t : Tr) : Nat → SV :=
  Tr.rec (motive := fun _ => Nat → SV) (fun _ => undefS) (fun v _ _ gl gr i =>
    Bool.rec (motive := fun _ => SV) (Bool.rec (motive := fun _ => SV) (gr (Nat.sub (Nat.div i 2) 1)) (gl (Nat.div i 2)) (Nat.beq (Nat.mod i 2) 1)) v (Nat.beq i 0)) t

noncomputable def Tr.set (t : Tr) : Nat → SV → Tr :=
  Tr.rec (motive := fun _ => Nat → SV → Tr) (fun _ _ => .nil) (fun v l r sl sr i x =>
    Bool.rec (motive := fun _ => Tr) (Bool.rec (motive := fun _ => Tr) (.node v l (sr (Nat.sub (Nat.div i 2) 1) x)) (.node v (sl (Nat.div i 2) x) r) (Nat.beq (Nat.mod i 2) 1)) (.node x l r) (Nat.beq i 0)) t

/-- Whether there is a place. -/
noncomputable def Tr.has (t : Tr) : Nat → Bool :=
  Tr.rec (motive := fun _ => Nat → Bool) (fun _ => false) (fun _ _ _ gl gr i =>
    Bool.rec (motive := fun _ => Bool) (Bool.rec (motive := fun _ => Bool) (gr (Nat.sub (Nat.div i 2) 1)) (gl (Nat.div i 2)) (Nat.beq (Nat.mod i 2) 1)) true (Nat.beq i 0)) t

noncomputable def Tr.get? (t : Tr) (i : Nat) : Option SV := match t.has i with
  | true => some (t.get i)
  | false => none

theorem three {α : Type} (i : Nat) (a b c : α) : Bool.rec (motive := fun _ => α) (Bool.rec (motive := fun _ => α) a b (Nat.beq (i % 2) 1)) c (Nat.beq i 0) = if i = 0 then c else if i % 2 = 1 then b else a := by
  by_cases h : i = 0
  · subst h; rfl
  · rw [if_neg h, show Nat.beq i 0 = false by cases i <;> first | exact absurd rfl h | rfl]
    by_cases h1 : i % 2 = 1
    · rw [if_pos h1, h1]; rfl
    · rw [if_neg h1, show i % 2 = 0 by omega]; rfl

theorem Tr.get_nil (i : Nat) : Tr.nil.get i = undefS := rfl
theorem Tr.has_nil (i : Nat) : Tr.nil.has i = false := rfl
theorem Tr.get_node (v : SV) (l r : Tr) (i : Nat) : (Tr.node v l r).get i = if i = 0 then v else if i % 2 = 1 then l.get (i / 2) else r.get (i / 2 - 1) := three i _ _ _
theorem Tr.has_node (v : SV) (l r : Tr) (i : Nat) : (Tr.node v l r).has i = if i = 0 then true else if i % 2 = 1 then l.has (i / 2) else r.has (i / 2 - 1) := three i _ _ _
theorem Tr.set_node (v : SV) (l r : Tr) (i : Nat) (x : SV) : (Tr.node v l r).set i x = if i = 0 then .node x l r else if i % 2 = 1 then .node v (l.set (i / 2) x) r else .node v l (r.set (i / 2 - 1) x) := three i _ _ _

theorem Tr.has_set (x : SV) : ∀ (t : Tr) (i j : Nat), (t.set i x).has j = t.has j
  | .nil, i, j => rfl
  | .node v l r, i, j => by
    rw [Tr.set_node, Tr.has_node]
    split
    · rw [Tr.has_node]
    · split
      · rw [Tr.has_node, Tr.has_set x l]
      · rw [Tr.has_node, Tr.has_set x r]

theorem Tr.get_set (x : SV) : ∀ (t : Tr) (i j : Nat), t.has i = true → (t.set i x).get j = if j = i then x else t.get j
  | .nil, i, j, h => by cases h
  | .node v l r, i, j, h => by
    rw [Tr.has_node] at h
    rw [Tr.set_node, Tr.get_node v l r j]
    by_cases hi : i = 0
    · subst hi
      rw [if_pos rfl, Tr.get_node]
      by_cases hj : j = 0
      · rw [if_pos hj, if_pos hj]
      · rw [if_neg hj, if_neg hj, if_neg hj]
    · rw [if_neg hi] at h ⊢
      by_cases h1 : i % 2 = 1
      · rw [if_pos h1] at h ⊢
        rw [Tr.get_node]
        by_cases hj : j = 0
        · subst hj; rw [if_pos rfl, if_pos rfl, if_neg (fun e => hi e.symm)]
        · rw [if_neg hj, if_neg hj]
          by_cases j1 : j % 2 = 1
          · rw [if_pos j1, if_pos j1, Tr.get_set x l _ _ h]
            by_cases e : j = i
            · rw [if_pos e, if_pos (by rw [e])]
            · rw [if_neg e, if_neg (by omega)]
          · rw [if_neg j1, if_neg j1, if_neg (fun e => j1 (by rw [e]; exact h1))]
      · rw [if_neg h1] at h ⊢
        rw [Tr.get_node]
        by_cases hj : j = 0
        · subst hj; rw [if_pos rfl, if_pos rfl, if_neg (fun e => hi e.symm)]
        · rw [if_neg hj, if_neg hj]
          by_cases j1 : j % 2 = 1
          · rw [if_pos j1, if_pos j1, if_neg (fun e => h1 (by rw [← e]; exact j1))]
          · rw [if_neg j1, if_neg j1, Tr.get_set x r _ _ h]
            by_cases e : j = i
            · rw [if_pos e, if_pos (by rw [e])]
            · rw [if_neg e, if_neg (by omega)]

theorem Tr.set_out (x : SV) : ∀ (t : Tr) (i : Nat), t.has i = false → t.set i x = t
  | .nil, i, h => rfl
  | .node v l r, i, h => by
    rw [Tr.has_node] at h
    rw [Tr.set_node]
    by_cases hi : i = 0
    · rw [if_pos hi] at h; cases h
    · rw [if_neg hi] at h ⊢
      by_cases h1 : i % 2 = 1
      · rw [if_pos h1] at h ⊢; rw [Tr.set_out x l _ h]
      · rw [if_neg h1] at h ⊢; rw [Tr.set_out x r _ h]

theorem Tr.get_out : ∀ (t : Tr) (i : Nat), t.has i = false → t.get i = undefS
  | .nil, i, h => rfl
  | .node v l r, i, h => by
    rw [Tr.has_node] at h
    rw [Tr.get_node]
    by_cases hi : i = 0
    · rw [if_pos hi] at h; cases h
    · rw [if_neg hi] at h ⊢
      by_cases h1 : i % 2 = 1
      · rw [if_pos h1] at h ⊢; rw [Tr.get_out l _ h]
      · rw [if_neg h1] at h ⊢; rw [Tr.get_out r _ h]

/-- n places; those at a, a + s, a + 2 s .. in this tree. -/
noncomputable def Tr.skel (n : Nat) (l : List SV) (f : Nat) : Nat → Nat → Tr :=
  Nat.rec (motive := fun _ => Nat → Nat → Tr) (fun _ _ => .nil) (fun _ ih a s =>
    Bool.rec (motive := fun _ => Tr) .nil (.node (l.getD a undefS) (ih (Nat.add a s) (Nat.mul 2 s)) (ih (Nat.add a (Nat.mul 2 s)) (Nat.mul 2 s))) (Nat.blt a n)) f
noncomputable def Tr.start (n : Nat) (l : List SV) : Tr := Tr.skel n l 13 0 1

theorem Tr.skel_succ (n : Nat) (l : List SV) (f a s : Nat) : Tr.skel n l (f + 1) a s = if a < n then .node (l.getD a undefS) (Tr.skel n l f (a + s) (2 * s)) (Tr.skel n l f (a + 2 * s) (2 * s)) else .nil := by
  show Bool.rec (motive := fun _ => Tr) .nil (.node (l.getD a undefS) (Tr.skel n l f (a + s) (2 * s)) (Tr.skel n l f (a + 2 * s) (2 * s))) (Nat.blt a n) = _
  by_cases h : a < n
  · rw [if_pos h, show Nat.blt a n = true by simpa using h]
  · rw [if_neg h]
    cases hb : Nat.blt a n with
    | true => exact absurd (by simpa using hb) h
    | false => rfl

theorem mul_le {s k : Nat} : s * 0 ≤ s * k := by omega

theorem Tr.skel_ok (n : Nat) (l : List SV) : ∀ (f a s k : Nat), k + 1 < 2 ^ f → (Tr.skel n l f a s).has k = decide (a + s * k < n) ∧ (a + s * k < n → (Tr.skel n l f a s).get k = l.getD (a + s * k) undefS)
  | 0, a, s, k, h => by simp at h
  | f + 1, a, s, k, h => by
    rw [Nat.pow_succ] at h
    rw [Tr.skel_succ]
    by_cases ha : a < n
    · rw [if_pos ha, Tr.has_node, Tr.get_node]
      by_cases hk : k = 0
      · subst hk
        rw [if_pos rfl, if_pos rfl, Nat.mul_zero, Nat.add_zero]
        exact ⟨(decide_eq_true ha).symm, fun _ => rfl⟩
      · rw [if_neg hk, if_neg hk]
        by_cases h1 : k % 2 = 1
        · rw [if_pos h1, if_pos h1]
          have e : a + s + 2 * s * (k / 2) = a + s * k := by
            have : k = 2 * (k / 2) + 1 := by omega
            calc a + s + 2 * s * (k / 2) = a + s * (2 * (k / 2) + 1) := by rw [Nat.mul_add, Nat.mul_one, ← Nat.mul_assoc, Nat.mul_comm s 2]; omega
              _ = a + s * k := by rw [← this]
          have := Tr.skel_ok n l f (a + s) (2 * s) (k / 2) (by omega)
          rw [e] at this
          exact this
        · rw [if_neg h1, if_neg h1]
          have e : a + 2 * s + 2 * s * (k / 2 - 1) = a + s * k := by
            have : k = 2 * (k / 2 - 1) + 2 := by omega
            calc a + 2 * s + 2 * s * (k / 2 - 1) = a + s * (2 * (k / 2 - 1) + 2) := by rw [Nat.mul_add, ← Nat.mul_assoc, Nat.mul_comm s 2]; omega
              _ = a + s * k := by rw [← this]
          have := Tr.skel_ok n l f (a + 2 * s) (2 * s) (k / 2 - 1) (by omega)
          rw [e] at this
          exact this
    · rw [if_neg ha]
      have hn : ¬ a + s * k < n := by have := Nat.le_add_right a (s * k); omega
      exact ⟨by rw [Tr.has_nil, decide_eq_false hn], fun h => absurd h hn⟩

structure St where
  tmps : Tr
  heap : List Blk
  facts : List (Nat × Bool)

def all2 {α β : Type} (R : α → β → Prop) : List α → List β → Prop
  | [], [] => True
  | a :: l, b :: m => R a b ∧ all2 R l m
  | _, _ => False

section
variable {α β : Type} {R R' : α → β → Prop}

theorem all2.mono (h : ∀ a b, R a b → R' a b) : ∀ {l : List α} {m : List β}, all2 R l m → all2 R' l m
  | [], [], _ => trivial
  | _ :: _, _ :: _, ⟨h1, h2⟩ => ⟨h _ _ h1, all2.mono h h2⟩
theorem all2.length : ∀ {l : List α} {m : List β}, all2 R l m → l.length = m.length
  | [], [], _ => rfl
  | _ :: _, _ :: _, ⟨_, h2⟩ => by simp [h2.length]
theorem all2.get? : ∀ {l : List α} {m : List β} (i : Nat) {a : α}, all2 R l m → l[i]? = some a → ∃ b, m[i]? = some b ∧ R a b
  | [], [], i, a, _, h => by simp at h
  | x :: l, y :: m, 0, a, ⟨h1, _⟩, h => ⟨y, rfl, by simp at h; exact h ▸ h1⟩
  | x :: l, y :: m, i + 1, a, ⟨_, h2⟩, h => by simpa using all2.get? i h2 (by simpa using h)
theorem all2.getD {a0 : α} {b0 : β} (h0 : R a0 b0) : ∀ {l : List α} {m : List β} (i : Nat), all2 R l m → R (l.getD i a0) (m.getD i b0)
  | [], [], i, _ => by simpa using h0
  | x :: l, y :: m, 0, ⟨h1, _⟩ => by simpa using h1
  | x :: l, y :: m, i + 1, ⟨_, h2⟩ => by simpa using all2.getD h0 i h2
theorem all2.set {a : α} {b : β} (hab : R a b) : ∀ {l : List α} {m : List β} (i : Nat), all2 R l m → all2 R (l.set i a) (m.set i b)
  | [], [], i, _ => trivial
  | x :: l, y :: m, 0, ⟨_, h2⟩ => ⟨hab, h2⟩
  | x :: l, y :: m, i + 1, ⟨h1, h2⟩ => ⟨h1, all2.set hab i h2⟩
theorem all2.drop : ∀ {l : List α} {m : List β} (i : Nat), all2 R l m → all2 R (l.drop i) (m.drop i)
  | [], [], i, _ => by simp [all2]
  | x :: l, y :: m, 0, h => h
  | x :: l, y :: m, i + 1, ⟨_, h2⟩ => by simpa using all2.drop i h2
theorem all2.take : ∀ {l : List α} {m : List β} (i : Nat), all2 R l m → all2 R (l.take i) (m.take i)
  | [], [], i, _ => by simp [all2]
  | x :: l, y :: m, 0, h => by simp [all2]
  | x :: l, y :: m, i + 1, ⟨h1, h2⟩ => by simpa using ⟨h1, all2.take i h2⟩
theorem all2.append : ∀ {l : List α} {m : List β} {l' : List α} {m' : List β}, all2 R l m → all2 R l' m' → all2 R (l ++ l') (m ++ m')
  | [], [], _, _, _, h => h
  | x :: l, y :: m, _, _, ⟨h1, h2⟩, h => ⟨h1, h2.append h⟩
theorem all2.forall_right {p : β → Prop} (h : ∀ a b, R a b → p b) : ∀ {l : List α} {m : List β}, all2 R l m → ∀ b ∈ m, p b
  | [], [], _, b, hb => by simp at hb
  | x :: l, y :: m, ⟨h1, h2⟩, b, hb => by
    rcases List.mem_cons.1 hb with rfl | hb
    · exact h _ _ h1
    · exact h2.forall_right h b hb
end

def okCell : SS → Bool
  | .lit v => v.oneCell'
  | .unk => false
  | _ => true

def SSm (ρ : Nat → NV) (β : List Nat) : SS → Value → Prop
  | .lit v, x => x = v
  | .flt k n, x => ∃ r, x = .float k r ∧ FIs k r (ρ n).gf
  | .int k n, x => x = .int k (ρ n).gi
  | .bool n neg, x => x = .bool ((ρ n).gb != neg)
  | .ptr b off, x => ∃ p, β[b]? = some p ∧ x = .pointer (some ⟨p, off, none⟩)
  | .slc b off len cap, x => ∃ p, β[b]? = some p ∧ x = .slice (some ⟨p, off, none⟩) len cap
  | .unk, _ => True

def SPm (ρ : Nat → NV) (β : List Nat) : SP → Value → Prop
  | .one s, x => SSm ρ β s x
  | .agg l, x => ∃ cs, x = .agg cs ∧ all2 (SSm ρ β) l cs.toList

def SVm (ρ : Nat → NV) (β : List Nat) : SV → Value → Prop
  | .p s, x => SPm ρ β s x
  | .tup l, x => ∃ cs, x = .tuple cs ∧ all2 (SPm ρ β) l cs.toList
  | .clo g f c, x => ∃ fs cs, x = .func (.func g) fs cs ∧ all2 (SPm ρ β) f fs.toList ∧ all2 (SPm ρ β) c cs.toList

theorem SSm.ext {ρ : Nat → NV} {β : List Nat} (γ : List Nat) {s : SS} {x : Value} (h : SSm ρ β s x) : SSm ρ (β ++ γ) s x := by
  cases s <;> first | exact h | skip
  all_goals
    obtain ⟨p, hp, hx⟩ := h
    refine ⟨p, ?_, hx⟩
    rw [List.getElem?_append_left (List.getElem?_eq_some_iff.1 hp).1]
    exact hp
theorem SPm.ext {ρ : Nat → NV} {β : List Nat} (γ : List Nat) {s : SP} {x : Value} (h : SPm ρ β s x) : SPm ρ (β ++ γ) s x := by
  cases s
  · exact SSm.ext γ h
  · obtain ⟨cs, hx, hl⟩ := h
    exact ⟨cs, hx, hl.mono fun _ _ => SSm.ext γ⟩
theorem SVm.ext {ρ : Nat → NV} {β : List Nat} (γ : List Nat) {s : SV} {x : Value} (h : SVm ρ β s x) : SVm ρ (β ++ γ) s x := by
  cases s
  · exact SPm.ext γ h
  · obtain ⟨cs, hx, hl⟩ := h
    exact ⟨cs, hx, hl.mono fun _ _ => SPm.ext γ⟩
  · obtain ⟨fs, cs, hx, hf, hl⟩ := h
    exact ⟨fs, cs, hx, hf.mono fun _ _ => SPm.ext γ, hl.mono fun _ _ => SPm.ext γ⟩

/-- What temporaries stand for. -/
structure TM (ρ : Nat → NV) (β : List Nat) (l : Tr) (a : Array Value) : Prop where
  has : ∀ i, i ≤ 8000 ∨ i < a.size → l.has i = decide (i < a.size)
  small : a.size ≤ 8000
  far : ∀ i, 8000 < i → l.has i = false
  get' : ∀ i, i < a.size → SVm ρ β (l.get i) (a.getD i undef)

theorem undefS_m (ρ : Nat → NV) (β : List Nat) : SVm ρ β undefS undef := rfl

theorem TM.has' {ρ : Nat → NV} {β : List Nat} {l : Tr} {a : Array Value} (H : TM ρ β l a) (i : Nat) : l.has i = decide (i < a.size) := by
  by_cases h : 8000 < i
  · rw [H.far i h, decide_eq_false (by have := H.small; omega)]
  · exact H.has i (Or.inl (by omega))
theorem TM.get {ρ : Nat → NV} {β : List Nat} {l : Tr} {a : Array Value} (H : TM ρ β l a) (i : Nat) : SVm ρ β (l.get i) (a.getD i undef) := by
  by_cases h : i < a.size
  · exact H.get' i h
  · rw [Tr.get_out l i (by rw [H.has' i, decide_eq_false h])]
    have : a.getD i undef = undef := by simp [Array.getD_eq_getD_getElem?, h]
    rw [this]
    rfl
theorem TM.get? {ρ : Nat → NV} {β : List Nat} {l : Tr} {a : Array Value} (H : TM ρ β l a) {i : Nat} {s : SV} (h : l.get? i = some s) : ∃ v, a[i]? = some v ∧ SVm ρ β s v := by
  unfold Tr.get? at h
  split at h
  · rename_i hl
    rw [H.has' i] at hl
    have h' : i < a.size := of_decide_eq_true hl
    cases h
    have := H.get' i h'
    have e : a.getD i undef = a[i] := by simp [Array.getD_eq_getD_getElem?, h']
    rw [e] at this
    exact ⟨a[i], by simp [h'], this⟩
  · cases h
theorem TM.set {ρ : Nat → NV} {β : List Nat} {l : Tr} {a : Array Value} (H : TM ρ β l a) (d : Nat) {s : SV} {v : Value} (h : SVm ρ β s v) : TM ρ β (l.set d s) (a.setIfInBounds d v) := by
  refine ⟨fun i _ => by rw [Tr.has_set, H.has' i]; simp, by simpa using H.small, fun i hi => by rw [Tr.has_set]; exact H.far i hi, fun i hi => ?_⟩
  simp at hi
  by_cases hd : d < a.size
  · rw [Tr.get_set s l d i (by rw [H.has' d, decide_eq_true hd])]
    by_cases e : i = d
    · subst e
      rw [if_pos rfl]
      have : (a.setIfInBounds i v).getD i undef = v := by simp [Array.getD_eq_getD_getElem?, hd]
      rw [this]; exact h
    · rw [if_neg e]
      have : (a.setIfInBounds d v).getD i undef = a.getD i undef := by
        simp only [Array.getD_eq_getD_getElem?]
        rw [Array.getElem?_setIfInBounds_ne (fun h => e h.symm)]
      rw [this]
      exact H.get' i hi
  · rw [Tr.set_out s l d (by rw [H.has' d, decide_eq_false hd])]
    have : (a.setIfInBounds d v).getD i undef = a.getD i undef := by
      simp only [Array.getD_eq_getD_getElem?]
      rw [Array.getElem?_setIfInBounds_ne (fun h => hd (by rw [h]; exact hi))]
    rw [this]
    exact H.get' i hi
theorem TM.ext {ρ : Nat → NV} {β : List Nat} {l : Tr} {a : Array Value} (γ : List Nat) (H : TM ρ β l a) : TM ρ (β ++ γ) l a := ⟨H.has, H.small, H.far, fun i hi => (H.get' i hi).ext γ⟩

theorem Tr.far_ok : ∀ (f n : Nat) (l : List SV) (a s k : Nat), n ≤ a + s * k → (Tr.skel n l f a s).has k = false
  | 0, n, l, a, s, k, _ => rfl
  | f + 1, n, l, a, s, k, h => by
    rw [Tr.skel_succ]
    by_cases ha : a < n
    · rw [if_pos ha, Tr.has_node]
      by_cases hk : k = 0
      · subst hk; rw [Nat.mul_zero] at h; omega
      · rw [if_neg hk]
        by_cases h1 : k % 2 = 1
        · rw [if_pos h1]
          refine Tr.far_ok f n l _ _ _ ?_
          have e : a + s + 2 * s * (k / 2) = a + s * k := by
            have : k = 2 * (k / 2) + 1 := by omega
            calc a + s + 2 * s * (k / 2) = a + s * (2 * (k / 2) + 1) := by rw [Nat.mul_add, Nat.mul_one, ← Nat.mul_assoc, Nat.mul_comm s 2]; omega
              _ = a + s * k := by rw [← this]
          omega
        · rw [if_neg h1]
          refine Tr.far_ok f n l _ _ _ ?_
          have e : a + 2 * s + 2 * s * (k / 2 - 1) = a + s * k := by
            have : k = 2 * (k / 2 - 1) + 2 := by omega
            calc a + 2 * s + 2 * s * (k / 2 - 1) = a + s * (2 * (k / 2 - 1) + 2) := by rw [Nat.mul_add, ← Nat.mul_assoc, Nat.mul_comm s 2]; omega
              _ = a + s * k := by rw [← this]
          omega
    · rw [if_neg ha]; rfl

theorem TM.start {ρ : Nat → NV} {β : List Nat} {l : List SV} {a : Array Value} (n : Nat) (hn : l.length + (n - l.length) ≤ 8000) (h : all2 (SVm ρ β) l a.toList) : TM ρ β (Tr.start (l.length + (n - l.length)) l) (a ++ Array.replicate (n - a.size) undef) := by
  have hlen : l.length = a.size := by rw [← Array.length_toList, ← h.length]
  have hsz : (a ++ Array.replicate (n - a.size) undef).size = l.length + (n - l.length) := by simp [hlen]
  have key := fun i (hi : i ≤ 8000) => Tr.skel_ok (l.length + (n - l.length)) l 13 0 1 i (by omega)
  refine ⟨fun i hi => ?_, by rw [hsz]; exact hn, fun i hi => Tr.far_ok 13 _ l 0 1 i (by omega), fun i hi => ?_⟩
  · have hi' : i ≤ 8000 := by rcases hi with h | h <;> omega
    have := (key i hi').1
    rw [hsz]
    simpa [Tr.start] using this
  · rw [hsz] at hi
    have := (key i (by omega)).2 (by omega)
    rw [show Tr.start (l.length + (n - l.length)) l = Tr.skel (l.length + (n - l.length)) l 13 0 1 from rfl, this]
    simp only [Nat.one_mul, Nat.zero_add]
    by_cases e : i < l.length
    · have := h.getD (a0 := undefS) (b0 := undef) rfl i
      have e2 : (a ++ Array.replicate (n - a.size) undef).getD i undef = a.toList.getD i undef := by
        have hi' : i < a.size := by omega
        simp [Array.getD_eq_getD_getElem?, List.getD_eq_getElem?_getD, Array.getElem?_append, hi']
      rw [e2]
      exact this
    · have e2 : (a ++ Array.replicate (n - a.size) undef).getD i undef = undef := by
        have hi' : ¬ i < a.size := by omega
        have hi2 : i - a.size < n - a.size := by omega
        simp [Array.getD_eq_getD_getElem?, Array.getElem?_append, hi', hi2]
      rw [e2]
      have e3 : l.getD i undefS = undefS := by
        rw [List.getD_eq_getElem?_getD, List.getElem?_eq_none (by omega)]; rfl
      rw [e3]
      rfl
theorem TM.zero (ρ : Nat → NV) (β : List Nat) : TM ρ β .nil #[] := ⟨fun _ _ => rfl, Nat.zero_le _, fun _ _ => rfl, fun i hi => by simp at hi⟩

def svOf : Value → SV
  | .agg cs => .agg (cs.toList.map .lit)
  | v => .one (.lit v)

theorem all2_lit (ρ : Nat → NV) (β : List Nat) : ∀ l : List Value, all2 (SSm ρ β) (l.map .lit) l
  | [] => trivial
  | _ :: l => ⟨rfl, all2_lit ρ β l⟩

theorem svOf_m (ρ : Nat → NV) (β : List Nat) (v : Value) : SVm ρ β (svOf v) v := by
  cases v <;> first | exact rfl | skip
  rename_i cs
  exact ⟨cs, rfl, all2_lit ρ β _⟩

/-- The blocks that are known lie where β says. -/
def HeapAt (ρ : Nat → NV) (β : List Nat) (h : List Blk) (w : World) : Prop :=
  ∀ (b : Nat) (k : Blk), h[b]? = some k → ∃ p cs, β[b]? = some p ∧ w.heap[p]? = some (.cells cs k.t (0, 0)) ∧ all2 (SSm ρ β) k.cells cs.toList

theorem HeapAt.on {ρ : Nat → NV} {β : List Nat} {h : List Blk} {w w' : World} (H : HeapAt ρ β h w) (hs : Stays w w') : HeapAt ρ β h w' := fun b k hb => by
  obtain ⟨p, cs, h1, h2, h3⟩ := H b k hb
  exact ⟨p, cs, h1, hs.heap (Array.getElem?_eq_some_iff.1 h2).1 h2, h3⟩

theorem HeapAt.ext {ρ : Nat → NV} {β : List Nat} {h : List Blk} {w : World} (γ : List Nat) (H : HeapAt ρ β h w) : HeapAt ρ (β ++ γ) h w := fun b k hb => by
  obtain ⟨p, cs, h1, h2, h3⟩ := H b k hb
  refine ⟨p, cs, ?_, h2, h3.mono fun _ _ => SSm.ext γ⟩
  rw [List.getElem?_append_left (List.getElem?_eq_some_iff.1 h1).1]
  exact h1

/-- A world to begin with; so many blocks, the first ones, are only read. -/
structure W0 where
  w : World
  ro : Nat

/-- The same, each that may be written not below B, and all apart. -/
structure HeapM (ρ : Nat → NV) (B : W0) (β : List Nat) (h : List Blk) (w : World) : Prop where
  len : β.length = h.length
  nodup : β.Nodup
  own : ∀ b p, B.ro ≤ b → β[b]? = some p → B.w.heap.size ≤ p
  at_ : HeapAt ρ β h w

theorem HeapM.on {ρ : Nat → NV} {B : W0} {β : List Nat} {h : List Blk} {w w' : World} (H : HeapM ρ B β h w) (hs : Stays w w') : HeapM ρ B β h w' :=
  ⟨H.len, H.nodup, H.own, H.at_.on hs⟩

/-! ### Ways -/

inductive DT (α : Type) where
  | ret (x : α)
  | split (c : Nat) (t e : DT α)
  | mk (d : Df) (k : DT α)
  | req (tag n : Nat) (k : DT α)
  | fail (why : Nat)

def DT.bind {α β : Type} : DT α → (α → DT β) → DT β
  | .ret x, f => f x
  | .split c t e, f => .split c (t.bind f) (e.bind f)
  | .mk d k, f => .mk d (k.bind f)
  | .req g n k, f => .req g n (k.bind f)
  | .fail y, _ => .fail y

/-- What is asked of a node: 0: that it can be narrowed; 1: a wide number not less than 0; 2: no NaN; 3: that it is so; 4: not 0; 16 and more: a number whose integer lies within a kind. -/
def Asked : Nat → NV → Prop
  | 0, v => ∀ c, v.gf = some c → fits c = true
  | 1, v => ∃ c, v.gf = some c ∧ c < 2 ^ 63
  | 2, v => v.gf ≠ none
  | 3, v => v.gb = true
  | 4, v => v.gi ≠ 0
  | g, v => ∃ n, truncI (kf (Nat.div (Nat.sub g 16) 8)) v.gf = some n ∧ (ik (Nat.mod (Nat.sub g 16) 8)).min ≤ n ∧ n ≤ (ik (Nat.mod (Nat.sub g 16) 8)).max

def DT.holds {α : Type} (Φ : Syms) (ρ : Nat → NV) : DT α → (α → Prop) → Prop
  | .ret x, Q => Q x
  | .split c t e, Q => if (ρ c).gb = true then t.holds Φ ρ Q else e.holds Φ ρ Q
  | .mk d k, Q => ρ d.id = d.sem Φ ρ ∧ k.holds Φ ρ Q
  | .req g n k, Q => Asked g (ρ n) ∧ k.holds Φ ρ Q
  | .fail _, _ => False

theorem DT.holds_bind {α β : Type} {Φ : Syms} {ρ : Nat → NV} {f : α → DT β} {Q : β → Prop} : ∀ m : DT α, (m.bind f).holds Φ ρ Q → m.holds Φ ρ fun x => (f x).holds Φ ρ Q
  | .ret x, h => h
  | .split c t e, h => by
    unfold DT.bind DT.holds at h
    unfold DT.holds
    split
    · rename_i hc; rw [if_pos hc] at h; exact DT.holds_bind t h
    · rename_i hc; rw [if_neg hc] at h; exact DT.holds_bind e h
  | .mk d k, h => ⟨h.1, DT.holds_bind k h.2⟩
  | .req g n k, h => ⟨h.1, DT.holds_bind k h.2⟩
  | .fail y, h => h

theorem DT.holds_bind' {α β : Type} {Φ : Syms} {ρ : Nat → NV} {f : α → DT β} {Q : β → Prop} : ∀ m : DT α, m.holds Φ ρ (fun x => (f x).holds Φ ρ Q) → (m.bind f).holds Φ ρ Q
  | .ret x, h => h
  | .split c t e, h => by
    unfold DT.holds at h
    unfold DT.bind DT.holds
    split
    · rename_i hc; rw [if_pos hc] at h; exact DT.holds_bind' t h
    · rename_i hc; rw [if_neg hc] at h; exact DT.holds_bind' e h
  | .mk d k, h => ⟨h.1, DT.holds_bind' k h.2⟩
  | .req g n k, h => ⟨h.1, DT.holds_bind' k h.2⟩
  | .fail y, h => h

theorem DT.holds_mono {α : Type} {Φ : Syms} {ρ : Nat → NV} {Q Q' : α → Prop} (hq : ∀ x, Q x → Q' x) : ∀ m : DT α, m.holds Φ ρ Q → m.holds Φ ρ Q'
  | .ret x, h => hq _ h
  | .split c t e, h => by
    unfold DT.holds at h ⊢
    split
    · rename_i hc; rw [if_pos hc] at h; exact DT.holds_mono hq t h
    · rename_i hc; rw [if_neg hc] at h; exact DT.holds_mono hq e h
  | .mk d k, h => ⟨h.1, DT.holds_mono hq k h.2⟩
  | .req g n k, h => ⟨h.1, DT.holds_mono hq k h.2⟩
  | .fail y, h => h

/-- The way that is gone has one end. -/
theorem DT.holds_leaf {α : Type} {Φ : Syms} {ρ : Nat → NV} {Q : α → Prop} : ∀ m : DT α, m.holds Φ ρ Q → ∃ x, Q x ∧ m.holds Φ ρ fun y => y = x
  | .ret x, h => ⟨x, h, rfl⟩
  | .split c t e, h => by
    unfold DT.holds at h ⊢
    split
    · rename_i hc; rw [if_pos hc] at h; exact DT.holds_leaf t h
    · rename_i hc; rw [if_neg hc] at h; exact DT.holds_leaf e h
  | .mk d k, h => by obtain ⟨x, h1, h2⟩ := DT.holds_leaf k h.2; exact ⟨x, h1, h.1, h2⟩
  | .req g n k, h => by obtain ⟨x, h1, h2⟩ := DT.holds_leaf k h.2; exact ⟨x, h1, h.1, h2⟩
  | .fail y, h => h.elim

/-- The nodes that are made, then the end. -/
def DT.mks {α : Type} : List Df → DT α → DT α
  | [], k => k
  | d :: r, k => .mk d (DT.mks r k)

theorem DT.holds_mks {α : Type} {Φ : Syms} {ρ : Nat → NV} {Q : α → Prop} : ∀ (ds : List Df) (k : DT α), (DT.mks ds k).holds Φ ρ Q → (∀ d ∈ ds, ρ d.id = d.sem Φ ρ) ∧ k.holds Φ ρ Q
  | [], k, h => ⟨fun d hd => by simp at hd, h⟩
  | d :: r, k, h => by
    obtain ⟨h1, h2⟩ := DT.holds_mks r k h.2
    refine ⟨fun d' hd => ?_, h2⟩
    rcases List.mem_cons.1 hd with rfl | hd
    · exact h.1
    · exact h1 d' hd

end Go.Proofs.Ytcopccniijkceaa
