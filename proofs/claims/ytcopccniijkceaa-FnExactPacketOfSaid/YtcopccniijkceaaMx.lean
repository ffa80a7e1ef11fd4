/- The lesser and the greater one of two numbers, in the symbolic walk. No condition. -/
import Derived.Test.YtcopccniijkceaaY3
import Derived.Laws.Small
namespace Go.Proofs.Ytcopccniijkceaa
open Go Go.RowKit
set_option linter.unusedVariables false
set_option linter.unusedSimpArgs false

theorem canon_eq (f : Ieee.Format) {m n : Nat} {i j : Int} (hm : m < 2 * f.binade) (hn : n < 2 * f.binade) (hm0 : m < f.binade → i = f.leastPlace) (hn0 : n < f.binade → j = f.leastPlace) (hi : f.leastPlace ≤ i) (hj : f.leastPlace ≤ j)
    (h : m * 2 ^ (i - min i j).toNat = n * 2 ^ (j - min i j).toNat) : m = n ∧ i = j := by
  have hlow : ∀ (m n : Nat) (i j : Int), m < 2 * f.binade → (n < f.binade → j = f.leastPlace) → f.leastPlace ≤ i → i < j → m * 2 ^ (i - min i j).toNat = n * 2 ^ (j - min i j).toNat → False := by
    intro m n i j hm hn0 hi hij h
    rw [show (i - min i j).toNat = 0 by omega, Nat.pow_zero, Nat.mul_one] at h
    have hnb : f.binade ≤ n := by
      apply Nat.le_of_not_lt
      intro hc
      have := hn0 hc
      omega
    have h2 : 2 ^ 1 ≤ 2 ^ (j - min i j).toNat := Nat.pow_le_pow_right (by omega) (by omega)
    have h3 := Nat.mul_le_mul hnb h2
    omega
  rcases Int.lt_trichotomy i j with hij | hij | hij
  · exact (hlow m n i j hm hn0 hi hij h).elim
  · subst hij
    refine ⟨?_, rfl⟩
    exact Nat.eq_of_mul_eq_mul_right (Nat.two_pow_pos _) h
  · have hmin : min i j = min j i := Int.min_comm i j
    rw [hmin] at h
    exact (hlow n m j i hn hm0 hj hij h.symm).elim

theorem width_sw (f : Ieee.Format) : 2 ^ f.width = 2 * f.signWeight := by
  unfold Ieee.Format.width Ieee.Format.signWeight
  rw [show 1 + f.exponentBits + f.fractionBits = (f.exponentBits + f.fractionBits) + 1 by omega, Nat.pow_succ]
  omega

theorem word_parts (f : Ieee.Format) {x y : Nat} (hx : x < 2 ^ f.width) (hy : y < 2 ^ f.width) (h1 : x % f.signWeight = y % f.signWeight) (h2 : (x / f.signWeight % 2 == 1) = (y / f.signWeight % 2 == 1)) : x = y := by
  rw [width_sw] at hx hy
  have hp := sw_pos f
  have hdx : x / f.signWeight < 2 := Nat.div_lt_of_lt_mul (by omega)
  have hdy : y / f.signWeight < 2 := Nat.div_lt_of_lt_mul (by omega)
  have ex := Nat.div_add_mod x f.signWeight
  have ey := Nat.div_add_mod y f.signWeight
  have e : x / f.signWeight = y / f.signWeight := by
    rw [Nat.mod_eq_of_lt hdx, Nat.mod_eq_of_lt hdy] at h2
    generalize x / f.signWeight = a at hdx h2
    generalize y / f.signWeight = b at hdy h2
    have ha : a = 0 ∨ a = 1 := by omega
    have hb : b = 0 ∨ b = 1 := by omega
    rcases ha with rfl | rfl <;> rcases hb with rfl | rfl <;> first | rfl | (simp at h2)
  rw [← ex, ← ey, h1, e]

/-- Two numbers that are equal and not both 0 in size, or both not less than 0 by their signs, are the same word. -/
theorem order_bits (f : Ieee.Format) (he : 1 ≤ f.exponentBits) {x y : Nat} (hx : x < 2 ^ f.width) (hy : y < 2 ^ f.width) (hz : y % f.signWeight ≠ 0 ∨ (x < f.signWeight ∧ y < f.signWeight)) (h : f.order x y = some .eq) : x = y := by
  unfold Ieee.Format.order at h
  have hsign : x < f.signWeight ∧ y < f.signWeight → (x / f.signWeight % 2 == 1) = (y / f.signWeight % 2 == 1) := fun ⟨a, b⟩ => by
    rw [Nat.div_eq_of_lt a, Nat.div_eq_of_lt b]
  cases ex : f.read x with
  | nan s t => rw [ex] at h; simp [Ieee.Datum.order] at h
  | infinity s =>
    cases ey : f.read y with
    | nan => rw [ex, ey] at h; simp [Ieee.Datum.order] at h
    | number t n j => rw [ex, ey] at h; cases s <;> simp [Ieee.Datum.order] at h
    | infinity t =>
      rw [ex, ey] at h
      have hst : s = t := by cases s <;> cases t <;> first | rfl | (exact absurd h (by decide))
      have inf : ∀ (x : Nat) (s : Bool), f.read x = .infinity s → x % f.signWeight = f.infRung ∧ s = (x / f.signWeight % 2 == 1) := by
        intro x s e
        unfold Ieee.Format.read at e
        dsimp only at e
        split at e
        · cases e
        · split at e
          · cases e
          · split at e
            · rename_i h3; cases e; exact ⟨h3, rfl⟩
            · cases e
      obtain ⟨a1, a2⟩ := inf x s ex
      obtain ⟨b1, b2⟩ := inf y t ey
      exact word_parts f hx hy (a1.trans b1.symm) (by rw [← a2, ← b2, hst])
  | number s m i =>
    cases ey : f.read y with
    | nan => rw [ex, ey] at h; simp [Ieee.Datum.order] at h
    | infinity t => rw [ex, ey] at h; cases t <;> simp [Ieee.Datum.order] at h
    | number t n j =>
      rw [ex, ey] at h
      obtain ⟨p1, p2, p3, p4, p5, p6⟩ := Go.Proofs.Ytcopccniijkceaa.read_parts f he ex
      obtain ⟨q1, q2, q3, q4, q5, q6⟩ := Go.Proofs.Ytcopccniijkceaa.read_parts f he ey
      simp only [Ieee.Datum.order, Option.some.injEq] at h
      have hv := Int.compare_eq_eq.1 h
      have hmag : m * 2 ^ (i - min i j).toNat = n * 2 ^ (j - min i j).toNat ∧ (n ≠ 0 → s = t) := by
        unfold Ieee.signed at hv
        rw [shl_eq, shl_eq] at hv
        have hpos : 0 < 2 ^ (j - min i j).toNat := Nat.two_pow_pos _
        generalize hA : m * 2 ^ (i - min i j).toNat = A at hv
        generalize hB : n * 2 ^ (j - min i j).toNat = B at hv
        have hnB : n ≠ 0 → B ≠ 0 := fun h0 e => by
          rw [← hB] at e
          rcases Nat.mul_eq_zero.1 e with e | e
          · exact h0 e
          · omega
        constructor
        · cases s <;> cases t <;> simp at hv <;> omega
        · intro h0
          have := hnB h0
          cases s <;> cases t <;> simp at hv <;> first | rfl | omega
      obtain ⟨hmn, hij⟩ := canon_eq f p2 q2 p3 q3 p1 q1 hmag.1
      subst hmn hij
      refine word_parts f hx hy (p4.symm.trans q4) ?_
      rcases hz with hz | hz
      · have : m ≠ 0 := by
          intro e
          subst e
          have hb : 0 < f.binade := Nat.two_pow_pos _
          have := q3 hb
          rw [this, Int.sub_self] at q4
          simp at q4
          exact hz q4.symm
        rw [← p6, ← q6]
        exact hmag.2 this
      · exact hsign hz

noncomputable def cst64 (c : Nat) : Bool := Nat.blt 0 (c % 9223372036854775808) && (Nat.ble (c % 9223372036854775808) 9218868437227405312 && Nat.blt c 18446744073709551616)

/-- By the builtin; the arguments: what is made, what is asked, the node that decides, the value if it is so, the value otherwise. -/
noncomputable def mmS (b : Builtin) (x y : SV) : Option (List Df × List (Nat × Nat) × Nat × SS × SS) :=
  match b, x, y with
  | .min, .p (.one (.flt .f64 i)), .p (.one (.flt .f64 j)) => some ([⟨11, 1, [i, j]⟩], [(1, i), (1, j)], Df.id ⟨11, 1, [i, j]⟩, .flt .f64 j, .flt .f64 i)
  | .max, .p (.one (.flt .f64 i)), .p (.one (.flt .f64 j)) => some ([⟨11, 1, [i, j]⟩], [(1, i), (1, j)], Df.id ⟨11, 1, [i, j]⟩, .flt .f64 i, .flt .f64 j)
  | .min, .p (.one (.flt .f32 i)), .p (.one (.lit (.float .f32 c))) =>
    if Nat.blt 0 (c % 2147483648) && (Nat.ble (c % 2147483648) 2139095040 && Nat.blt c 4294967296) then some ([⟨4, c, []⟩, ⟨11, 0, [i, Df.id ⟨4, c, []⟩]⟩], [(2, i)], Df.id ⟨11, 0, [i, Df.id ⟨4, c, []⟩]⟩, .lit (.float .f32 c), .flt .f32 i) else none
  | .max, .p (.one (.flt .f32 i)), .p (.one (.lit (.float .f32 c))) =>
    if Nat.blt 0 (c % 2147483648) && (Nat.ble (c % 2147483648) 2139095040 && Nat.blt c 4294967296) then some ([⟨4, c, []⟩, ⟨9, 0, [i, Df.id ⟨4, c, []⟩]⟩], [(2, i)], Df.id ⟨9, 0, [i, Df.id ⟨4, c, []⟩]⟩, .lit (.float .f32 c), .flt .f32 i) else none
  | .min, .p (.one (.flt .f64 i)), .p (.one (.lit (.float .f64 c))) =>
    if cst64 c then some ([⟨5, c, []⟩, ⟨11, 1, [i, Df.id ⟨5, c, []⟩]⟩], [(2, i)], Df.id ⟨11, 1, [i, Df.id ⟨5, c, []⟩]⟩, .lit (.float .f64 c), .flt .f64 i) else none
  | .max, .p (.one (.flt .f64 i)), .p (.one (.lit (.float .f64 c))) =>
    if cst64 c then some ([⟨5, c, []⟩, ⟨9, 1, [i, Df.id ⟨5, c, []⟩]⟩], [(2, i)], Df.id ⟨9, 1, [i, Df.id ⟨5, c, []⟩]⟩, .lit (.float .f64 c), .flt .f64 i) else none
  | .min, .p (.one x), .p (.one y) => (mmI true x y).map fun r => (r.1, [], r.2.1, r.2.2.1, r.2.2.2)
  | .max, .p (.one x), .p (.one y) => (mmI false x y).map fun r => (r.1, [], r.2.1, r.2.2.1, r.2.2.2)
  | _, _, _ => none

noncomputable def ltB (k : FloatKind) (a c : Nat) : Option Bool := match k.format.order a c with
  | some .lt => some true
  | some .gt => some false
  | _ => none

/-- Of two constants. -/
noncomputable def mmLit (b : Builtin) (x y : SV) : Option SS :=
  match b, x, y with
  | .min, .p (.one (.lit (.float k a))), .p (.one (.lit (.float k' c))) => if Nat.beq (kn k) (kn k') then (ltB k a c).map fun l => .lit (.float k (if l then a else c)) else none
  | .max, .p (.one (.lit (.float k a))), .p (.one (.lit (.float k' c))) => if Nat.beq (kn k) (kn k') then (ltB k a c).map fun l => .lit (.float k (if l then c else a)) else none
  | .min, .p (.one (.lit (.int k a))), .p (.one (.lit (.int _ c))) => some (.lit (.int k (if c < a then c else a)))
  | .max, .p (.one (.lit (.int k a))), .p (.one (.lit (.int _ c))) => some (.lit (.int k (if c > a then c else a)))
  | _, _, _ => none

noncomputable def mmRun (b : Builtin) (ts : Array TypeId) (t : TypeId) (vs : Array Value) : Sem Value := match b with
  | .min => Builtin.min_ ts t vs
  | _ => Builtin.max_ ts t vs

section
variable {Φ : Syms} {ρ : Nat → NV} {β : List Nat} {P : Program} {w : World}

theorem mmLit_ok {b : Builtin} {x y : SV} {s : SS} {vx vy : Value} {ts : Array TypeId} {t : TypeId} (h : mmLit b x y = some s) (hx : SVm ρ β x vx) (hy : SVm ρ β y vy) :
    (b = .min ∨ b = .max) ∧ ∃ v, (mmRun b ts t #[vx, vy]).run P w = .ok v w ∧ SSm ρ β s v := by
  unfold mmLit at h
  split at h
  · rename_i k a k' c
    split at h
    case isFalse => cases h
    rename_i hk
    obtain rfl := kn_inj (Nat.eq_of_beq_eq_true hk)
    obtain rfl : vx = _ := hx
    obtain rfl : vy = _ := hy
    simp only [Option.map_eq_some_iff] at h
    obtain ⟨l, hl, rfl⟩ := h
    refine ⟨Or.inl rfl, _, ?_, rfl⟩
    unfold ltB at hl
    split at hl
    · rename_i ho; cases hl; simp [mmRun, Builtin.min_, Builtin.min2, ho]
    · rename_i ho; cases hl; simp [mmRun, Builtin.min_, Builtin.min2, ho]
    · cases hl
  · rename_i k a k' c
    split at h
    case isFalse => cases h
    rename_i hk
    obtain rfl := kn_inj (Nat.eq_of_beq_eq_true hk)
    obtain rfl : vx = _ := hx
    obtain rfl : vy = _ := hy
    simp only [Option.map_eq_some_iff] at h
    obtain ⟨l, hl, rfl⟩ := h
    refine ⟨Or.inr rfl, _, ?_, rfl⟩
    unfold ltB at hl
    split at hl
    · rename_i ho; cases hl; simp [mmRun, Builtin.max_, Builtin.max2, ho]
    · rename_i ho; cases hl; simp [mmRun, Builtin.max_, Builtin.max2, ho]
    · cases hl
  · rename_i k a k' c
    cases h
    obtain rfl : vx = _ := hx
    obtain rfl : vy = _ := hy
    exact ⟨Or.inl rfl, _, run_min_int2 w ts t k k' a c, rfl⟩
  · rename_i k a k' c
    cases h
    obtain rfl : vx = _ := hx
    obtain rfl : vy = _ := hy
    exact ⟨Or.inr rfl, _, run_max_int2 w ts t k k' a c, rfl⟩
  · cases h

theorem order_some {k : FloatKind} {x y : Nat} (hx : (k.decode x).isNaN = false) (hy : (k.decode y).isNaN = false) : ∃ o, k.format.order x y = some o := by
  rw [order_can, can_num hx, can_num hy]
  unfold FloatKind.decode at hx hy
  show ∃ o, k.format.order x y = some o
  unfold Ieee.Format.order
  cases ex : k.format.read x with
  | nan => rw [ex] at hx; cases hx
  | infinity s => cases ey : k.format.read y with
    | nan => rw [ey] at hy; cases hy
    | infinity => exact ⟨_, rfl⟩
    | number => exact ⟨_, rfl⟩
  | number => cases ey : k.format.read y with
    | nan => rw [ey] at hy; cases hy
    | infinity => exact ⟨_, rfl⟩
    | number => exact ⟨_, rfl⟩

theorem fnum {k : FloatKind} {r c : Nat} {o : Option Nat} (h : FIs k r o) (ho : o = some c) : r = c ∧ (k.decode r).isNaN = false := by
  subst ho
  obtain ⟨h1, h2⟩ := can_some h.out
  exact ⟨h1.symm, h2⟩

theorem mm_const {c : Nat} (hc : (Nat.blt 0 (c % 2147483648) && (Nat.ble (c % 2147483648) 2139095040 && Nat.blt c 4294967296)) = true) : c % Ieee.single.signWeight ≠ 0 ∧ c < 2 ^ Ieee.single.width ∧ (FloatKind.f32.decode c).isNaN = false := by
  simp only [Bool.and_eq_true] at hc
  have h1 : 0 < c % 2147483648 := by simpa using hc.1
  have h2 := Nat.le_of_ble_eq_true hc.2.1
  have h3 : c < 4294967296 := by simpa using hc.2.2
  refine ⟨?_, h3, ?_⟩
  · show c % 2147483648 ≠ 0
    omega
  · unfold FloatKind.decode
    have : FloatKind.f32.format = Ieee.single := rfl
    rw [this, nan_rung]
    show decide (¬ (c % 2147483648 < Ieee.single.binade) ∧ ¬ (c % 2147483648 < Ieee.single.infRung) ∧ ¬ (c % 2147483648 = Ieee.single.infRung)) = false
    have e : Ieee.single.infRung = 2139095040 := rfl
    rw [e]
    exact decide_eq_false (by omega)

theorem mm_const64 {c : Nat} (hc : cst64 c = true) : c % Ieee.double.signWeight ≠ 0 ∧ c < 2 ^ Ieee.double.width ∧ (FloatKind.f64.decode c).isNaN = false := by
  simp only [cst64, Bool.and_eq_true] at hc
  have h1 : 0 < c % 9223372036854775808 := by simpa using hc.1
  have h2 := Nat.le_of_ble_eq_true hc.2.1
  have h3 : c < 18446744073709551616 := by simpa using hc.2.2
  refine ⟨?_, h3, ?_⟩
  · show c % 9223372036854775808 ≠ 0
    omega
  · unfold FloatKind.decode
    have : FloatKind.f64.format = Ieee.double := rfl
    rw [this, nan_rung]
    show decide (¬ (c % 9223372036854775808 < Ieee.double.binade) ∧ ¬ (c % 9223372036854775808 < Ieee.double.infRung) ∧ ¬ (c % 9223372036854775808 = Ieee.double.infRung)) = false
    have e : Ieee.double.infRung = 9218868437227405312 := rfl
    rw [e]
    exact decide_eq_false (by omega)

theorem mmS_ok {b : Builtin} {x y : SV} {ds : List Df} {rq : List (Nat × Nat)} {n : Nat} {a e : SS} {vx vy : Value} {ts : Array TypeId} {t : TypeId} (h : mmS b x y = some (ds, rq, n, a, e))
    (hd : ∀ d ∈ ds, ρ d.id = d.sem Φ ρ) (hq : ∀ q ∈ rq, Asked q.1 (ρ q.2)) (hx : SVm ρ β x vx) (hy : SVm ρ β y vy) :
    (b = .min ∨ b = .max) ∧ ∃ v, (mmRun b ts t #[vx, vy]).run P w = .ok v w ∧ SSm ρ β (match (ρ n).gb with | true => a | false => e) v := by
  have two : ∀ i j, Asked 1 (ρ i) → Asked 1 (ρ j) → SVm ρ β (.p (.one (.flt .f64 i))) vx → SVm ρ β (.p (.one (.flt .f64 j))) vy → ∃ p q o, vx = .float .f64 p ∧ vy = .float .f64 q ∧ FIs .f64 p (ρ i).gf ∧ FIs .f64 q (ρ j).gf ∧
      FloatKind.f64.format.order p q = some o ∧ ford .f64 (ρ i).gf (ρ j).gf = some o ∧ (o = .eq → p = q) := by
    intro i j hi hj hx hy
    obtain ⟨p, rfl, hp⟩ := hx
    obtain ⟨q, rfl, hq⟩ := hy
    obtain ⟨c, hc, hcl⟩ := hi
    obtain ⟨c', hc', hcl'⟩ := hj
    obtain ⟨rfl, hp2⟩ := fnum hp hc
    obtain ⟨rfl, hq2⟩ := fnum hq hc'
    obtain ⟨o, ho⟩ := order_some hp2 hq2
    refine ⟨p, q, o, rfl, rfl, hp, hq, ho, ?_, fun e => ?_⟩
    · rw [order_can, hp.out, hq.out] at ho; exact ho
    · subst e
      exact order_bits _ (by decide) hp.lt hq.lt (Or.inr ⟨hcl, hcl'⟩) ho
  have one : ∀ i c, (Nat.blt 0 (c % 2147483648) && (Nat.ble (c % 2147483648) 2139095040 && Nat.blt c 4294967296)) = true → Asked 2 (ρ i) → SVm ρ β (.p (.one (.flt .f32 i))) vx → ∃ p o, vx = .float .f32 p ∧ FIs .f32 p (ρ i).gf ∧
      FloatKind.f32.format.order p c = some o ∧ ford .f32 (ρ i).gf (can .f32 c) = some o ∧ (o = .eq → p = c) := by
    intro i c hc hi hx
    obtain ⟨p, rfl, hp⟩ := hx
    obtain ⟨h1, h2, h3⟩ := mm_const hc
    have hp2 : (FloatKind.f32.decode p).isNaN = false := by
      cases hn : (FloatKind.f32.decode p).isNaN with
      | false => rfl
      | true =>
        exfalso
        exact hi (by rw [← hp.out, can_nan hn])
    obtain ⟨o, ho⟩ := order_some hp2 h3
    refine ⟨p, o, rfl, hp, ho, ?_, fun e => ?_⟩
    · rw [order_can, hp.out] at ho; exact ho
    · subst e
      exact order_bits _ (by decide) hp.lt h2 (Or.inl h1) ho
  have one64 : ∀ i c, cst64 c = true → Asked 2 (ρ i) → SVm ρ β (.p (.one (.flt .f64 i))) vx → ∃ p o, vx = .float .f64 p ∧ FIs .f64 p (ρ i).gf ∧
      FloatKind.f64.format.order p c = some o ∧ ford .f64 (ρ i).gf (can .f64 c) = some o ∧ (o = .eq → p = c) := by
    intro i c hc hi hx
    obtain ⟨p, rfl, hp⟩ := hx
    obtain ⟨h1, h2, h3⟩ := mm_const64 hc
    have hp2 : (FloatKind.f64.decode p).isNaN = false := by
      cases hn : (FloatKind.f64.decode p).isNaN with
      | false => rfl
      | true =>
        exfalso
        exact hi (by rw [← hp.out, can_nan hn])
    obtain ⟨o, ho⟩ := order_some hp2 h3
    refine ⟨p, o, rfl, hp, ho, ?_, fun e => ?_⟩
    · rw [order_can, hp.out] at ho; exact ho
    · subst e
      exact order_bits _ (by decide) hp.lt h2 (Or.inl h1) ho
  unfold mmS at h
  split at h
  · rename_i i j
    cases h
    obtain ⟨p, q, o, rfl, rfl, hp, hq', ho, hf, he⟩ := two i j (hq (1, i) (by simp)) (hq (1, j) (by simp)) hx hy
    refine ⟨Or.inl rfl, ?_⟩
    have hn : (ρ (Df.id ⟨11, 1, [i, j]⟩)).gb = (o == .gt) := by
      rw [hd _ (List.mem_singleton.2 rfl)]
      show (ford .f64 (ρ i).gf (ρ j).gf == some .gt) = _
      rw [hf]; cases o <;> rfl
    rw [hn]
    cases o with
    | lt => exact ⟨.float .f64 p, by simp [mmRun, Builtin.min_, Builtin.min2, ho], p, rfl, hp⟩
    | gt => exact ⟨.float .f64 q, by simp [mmRun, Builtin.min_, Builtin.min2, ho], q, rfl, hq'⟩
    | eq =>
      obtain rfl := he rfl
      exact ⟨.float .f64 p, by simp [mmRun, Builtin.min_, Builtin.min2, ho], p, rfl, hp⟩
  · rename_i i j
    cases h
    obtain ⟨p, q, o, rfl, rfl, hp, hq', ho, hf, he⟩ := two i j (hq (1, i) (by simp)) (hq (1, j) (by simp)) hx hy
    refine ⟨Or.inr rfl, ?_⟩
    have hn : (ρ (Df.id ⟨11, 1, [i, j]⟩)).gb = (o == .gt) := by
      rw [hd _ (List.mem_singleton.2 rfl)]
      show (ford .f64 (ρ i).gf (ρ j).gf == some .gt) = _
      rw [hf]; cases o <;> rfl
    rw [hn]
    cases o with
    | lt => exact ⟨.float .f64 q, by simp [mmRun, Builtin.max_, Builtin.max2, ho], q, rfl, hq'⟩
    | gt => exact ⟨.float .f64 p, by simp [mmRun, Builtin.max_, Builtin.max2, ho], p, rfl, hp⟩
    | eq =>
      obtain rfl := he rfl
      exact ⟨.float .f64 p, by simp [mmRun, Builtin.max_, Builtin.max2, ho], p, rfl, hq'⟩
  · rename_i i c
    split at h
    case isFalse => cases h
    rename_i hc
    cases h
    obtain ⟨p, o, rfl, hp, ho, hf, he⟩ := one i c hc (hq (2, i) (by simp)) hx
    obtain rfl : vy = .float .f32 c := hy
    refine ⟨Or.inl rfl, ?_⟩
    have hcn : ρ (Df.id ⟨4, c, []⟩) = .f (can .f32 c) := hd ⟨4, c, []⟩ (by simp)
    have hn : (ρ (Df.id ⟨11, 0, [i, Df.id ⟨4, c, []⟩]⟩)).gb = (o == .gt) := by
      rw [hd ⟨11, 0, [i, Df.id ⟨4, c, []⟩]⟩ (by simp)]
      show (ford .f32 (ρ i).gf (ρ (Df.id ⟨4, c, []⟩)).gf == some .gt) = _
      rw [hcn, show (NV.f (can .f32 c)).gf = can .f32 c from rfl, hf]; cases o <;> rfl
    rw [hn]
    cases o with
    | lt => exact ⟨.float .f32 p, by simp [mmRun, Builtin.min_, Builtin.min2, ho], p, rfl, hp⟩
    | gt => exact ⟨.float .f32 c, by simp [mmRun, Builtin.min_, Builtin.min2, ho], rfl⟩
    | eq =>
      obtain rfl := he rfl
      exact ⟨.float .f32 p, by simp [mmRun, Builtin.min_, Builtin.min2, ho], p, rfl, hp⟩
  · rename_i i c
    split at h
    case isFalse => cases h
    rename_i hc
    cases h
    obtain ⟨p, o, rfl, hp, ho, hf, he⟩ := one i c hc (hq (2, i) (by simp)) hx
    obtain rfl : vy = .float .f32 c := hy
    refine ⟨Or.inr rfl, ?_⟩
    have hcn : ρ (Df.id ⟨4, c, []⟩) = .f (can .f32 c) := hd ⟨4, c, []⟩ (by simp)
    have hn : (ρ (Df.id ⟨9, 0, [i, Df.id ⟨4, c, []⟩]⟩)).gb = (o == .lt) := by
      rw [hd ⟨9, 0, [i, Df.id ⟨4, c, []⟩]⟩ (by simp)]
      show (ford .f32 (ρ i).gf (ρ (Df.id ⟨4, c, []⟩)).gf == some .lt) = _
      rw [hcn, show (NV.f (can .f32 c)).gf = can .f32 c from rfl, hf]; cases o <;> rfl
    rw [hn]
    cases o with
    | gt => exact ⟨.float .f32 p, by simp [mmRun, Builtin.max_, Builtin.max2, ho], p, rfl, hp⟩
    | lt => exact ⟨.float .f32 c, by simp [mmRun, Builtin.max_, Builtin.max2, ho], rfl⟩
    | eq =>
      obtain rfl := he rfl
      exact ⟨.float .f32 p, by simp [mmRun, Builtin.max_, Builtin.max2, ho], p, rfl, hp⟩
  · rename_i i c
    split at h
    case isFalse => cases h
    rename_i hc
    cases h
    obtain ⟨p, o, rfl, hp, ho, hf, he⟩ := one64 i c hc (hq (2, i) (by simp)) hx
    obtain rfl : vy = .float .f64 c := hy
    refine ⟨Or.inl rfl, ?_⟩
    have hcn : ρ (Df.id ⟨5, c, []⟩) = .f (can .f64 c) := hd ⟨5, c, []⟩ (by simp)
    have hn : (ρ (Df.id ⟨11, 1, [i, Df.id ⟨5, c, []⟩]⟩)).gb = (o == .gt) := by
      rw [hd ⟨11, 1, [i, Df.id ⟨5, c, []⟩]⟩ (by simp)]
      show (ford .f64 (ρ i).gf (ρ (Df.id ⟨5, c, []⟩)).gf == some .gt) = _
      rw [hcn, show (NV.f (can .f64 c)).gf = can .f64 c from rfl, hf]; cases o <;> rfl
    rw [hn]
    cases o with
    | gt => exact ⟨.float .f64 c, by simp [mmRun, Builtin.min_, Builtin.min2, ho], rfl⟩
    | lt => exact ⟨.float .f64 p, by simp [mmRun, Builtin.min_, Builtin.min2, ho], p, rfl, hp⟩
    | eq =>
      obtain rfl := he rfl
      exact ⟨.float .f64 p, by simp [mmRun, Builtin.min_, Builtin.min2, ho], p, rfl, hp⟩
  · rename_i i c
    split at h
    case isFalse => cases h
    rename_i hc
    cases h
    obtain ⟨p, o, rfl, hp, ho, hf, he⟩ := one64 i c hc (hq (2, i) (by simp)) hx
    obtain rfl : vy = .float .f64 c := hy
    refine ⟨Or.inr rfl, ?_⟩
    have hcn : ρ (Df.id ⟨5, c, []⟩) = .f (can .f64 c) := hd ⟨5, c, []⟩ (by simp)
    have hn : (ρ (Df.id ⟨9, 1, [i, Df.id ⟨5, c, []⟩]⟩)).gb = (o == .lt) := by
      rw [hd ⟨9, 1, [i, Df.id ⟨5, c, []⟩]⟩ (by simp)]
      show (ford .f64 (ρ i).gf (ρ (Df.id ⟨5, c, []⟩)).gf == some .lt) = _
      rw [hcn, show (NV.f (can .f64 c)).gf = can .f64 c from rfl, hf]; cases o <;> rfl
    rw [hn]
    cases o with
    | gt => exact ⟨.float .f64 p, by simp [mmRun, Builtin.max_, Builtin.max2, ho], p, rfl, hp⟩
    | lt => exact ⟨.float .f64 c, by simp [mmRun, Builtin.max_, Builtin.max2, ho], rfl⟩
    | eq =>
      obtain rfl := he rfl
      exact ⟨.float .f64 p, by simp [mmRun, Builtin.max_, Builtin.max2, ho], p, rfl, hp⟩
  · rename_i x y _ _ _
    simp only [Option.map_eq_some_iff] at h
    obtain ⟨⟨d, m, a', e'⟩, hr, h⟩ := h
    cases h
    obtain ⟨k, p, q, rfl, rfl, hm⟩ := mmI_ok hr hd hx hy
    exact ⟨Or.inl rfl, _, run_min_int2 w ts t k k p q, hm⟩
  · rename_i x y _ _ _
    simp only [Option.map_eq_some_iff] at h
    obtain ⟨⟨d, m, a', e'⟩, hr, h⟩ := h
    cases h
    obtain ⟨k, p, q, rfl, rfl, hm⟩ := mmI_ok hr hd hx hy
    exact ⟨Or.inr rfl, _, run_max_int2 w ts t k k p q, hm⟩
  · cases h


/-- Builtins that give a constant. -/
noncomputable def builtS (TB : Tab) (b : Builtin) (ts : Array TypeId) (args : List SV) : Option SV :=
  match args with
  | [x] => if Nat.blt 0 ts.size then lenS TB b (ts.getD 0 0) x else none
  | [x, y] => (mmLit b x y).map .one
  | _ => none

theorem builtS_ok {TB : Tab} (hT : TabOK P TB) {b : Builtin} {ts : Array TypeId} {args : List SV} {r : SV} {vs : Array Value} {t : TypeId} {cs : Array Bool} (h : builtS TB b ts args = some r) (ha : all2 (SVm ρ β) args vs.toList) :
    ∃ v, (builtin b ts t cs vs).run P w = .ok (.value v) w ∧ SVm ρ β r v := by
  obtain ⟨l⟩ := vs
  unfold builtS at h
  split at h
  · rename_i x
    split at h
    case isFalse => cases h
    rename_i h0
    match l, ha with
    | [vx], ⟨h1, _⟩ =>
      obtain ⟨v, hr, hm⟩ := lenS_ok (w := w) (ty := t) hT h (by simpa using h0) h1
      refine ⟨v, ?_, hm⟩
      rcases hr with ⟨rfl, hr⟩ | ⟨rfl, hr⟩
      · simp [builtin, hr]
      · simp [builtin, hr]
  · rename_i x y
    simp only [Option.map_eq_some_iff] at h
    obtain ⟨s, hs, rfl⟩ := h
    match l, ha with
    | [vx, vy], ⟨h1, h2, _⟩ =>
      obtain ⟨hb, v, hr, hm⟩ := mmLit_ok (P := P) (w := w) (ts := ts) (t := t) hs h1 h2
      refine ⟨v, ?_, hm⟩
      rcases hb with rfl | rfl
      · have hr : (Builtin.min_ ts t #[vx, vy]).run P w = .ok v w := hr
        simp [builtin, hr]
      · have hr : (Builtin.max_ ts t #[vx, vy]).run P w = .ok v w := hr
        simp [builtin, hr]
  · cases h
end
end Go.Proofs.Ytcopccniijkceaa
