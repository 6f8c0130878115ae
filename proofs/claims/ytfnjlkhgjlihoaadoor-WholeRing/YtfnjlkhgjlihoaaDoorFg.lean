/- The float nearest to a number: plain facts. -/
import Derived.Test.YtfnjlkhgjlihoaaDoorFf
namespace Go.Proofs.YtfnjlkhgjlihoaaDoor

/-- q in units of 2 u is k, to the nearest, the even one between two. -/
def Half (q u : Rat) (k : Nat) : Prop :=
  ((2 * (k : Int) - 1 : Int) : Rat) * u ≤ q ∧ q ≤ ((2 * (k : Int) + 1 : Int) : Rat) * u ∧ (q = ((2 * (k : Int) - 1 : Int) : Rat) * u → k % 2 = 0) ∧ (q = ((2 * (k : Int) + 1 : Int) : Rat) * u → k % 2 = 0)

/-- The last bit that is kept of q lies at T - 1074. -/
def Last (q : Rat) (T : Nat) : Prop := (T = 0 ∨ ((9007199254740992 : Int) : Rat) * p2 ((T : Int) - 1075) ≤ q) ∧ q < ((18014398509481984 : Int) : Rat) * p2 ((T : Int) - 1075)

/-- The rung of the float nearest to q, which is not below 0. -/
def Near (q : Rat) (r : Nat) : Prop :=
  (q = 0 ∧ r = 0) ∨ (0 < q ∧ ∃ T k : Nat, Last q T ∧ Half q (p2 ((T : Int) - 1075)) k ∧ r = min (T * 4503599627370496 + k) 9218868437227405312)

theorem lt_of_le_lt {a b c : Rat} (h1 : a ≤ b) (h2 : b < c) : a < c := by grind

theorem lt_of_lt_le {a b c : Rat} (h1 : a < b) (h2 : b ≤ c) : a < c := by grind

theorem le_of_same {a b : Rat} (h : a = b) : a ≤ b := by rw [h]; exact Rat.le_refl

theorem int_le {a b : Int} {u : Rat} (hu : 0 < u) (h : (a : Rat) * u ≤ (b : Rat) * u) : a ≤ b := by
  rcases Int.lt_or_le b a with h1 | h1
  · have h2 : (b : Rat) < (a : Rat) := Rat.intCast_lt_intCast.2 h1
    have h3 := Rat.mul_lt_mul_of_pos_right h2 hu
    grind
  · exact h1

theorem int_lt {a b : Int} {u : Rat} (hu : 0 < u) (h : (a : Rat) * u < (b : Rat) * u) : a < b := by
  rcases Int.lt_or_le a b with h1 | h1
  · exact h1
  · have h2 : (b : Rat) ≤ (a : Rat) := Rat.intCast_le_intCast.2 h1
    have h3 := Rat.mul_le_mul_of_nonneg_right h2 (Rat.le_of_lt hu)
    grind

theorem le_int {a b : Int} {u : Rat} (hu : 0 < u) (h : a ≤ b) : (a : Rat) * u ≤ (b : Rat) * u :=
  Rat.mul_le_mul_of_nonneg_right (Rat.intCast_le_intCast.2 h) (Rat.le_of_lt hu)

theorem lt_int {a b : Int} {u : Rat} (hu : 0 < u) (h : a < b) : (a : Rat) * u < (b : Rat) * u :=
  Rat.mul_lt_mul_of_pos_right (Rat.intCast_lt_intCast.2 h) hu

theorem kept_bounds {q : Rat} {T k : Nat} (hl : Last q T) (hh : Half q (p2 ((T : Int) - 1075)) k) : k ≤ 9007199254740992 ∧ (T = 0 ∨ 4503599627370496 ≤ k) := by
  obtain ⟨h1, h2⟩ := hl
  obtain ⟨h3, h4, _, _⟩ := hh
  have hu := p2_pos ((T : Int) - 1075)
  have a := int_lt hu (lt_of_le_lt h3 h2)
  refine ⟨by omega, h1.imp id fun h => ?_⟩
  have b := int_le hu (Rat.le_trans h h4)
  omega

theorem half_mono {p q u : Rat} {j k : Nat} (hu : 0 < u) (h : p ≤ q) (h1 : Half p u j) (h2 : Half q u k) : j ≤ k := by
  obtain ⟨a1, a2, a3, a4⟩ := h1
  obtain ⟨b1, b2, b3, b4⟩ := h2
  have c := int_le hu (Rat.le_trans (Rat.le_trans a1 h) b2)
  rcases Nat.lt_or_ge k j with hk | hk
  · have e : (2 * (j : Int) - 1 : Int) = 2 * (k : Int) + 1 := by omega
    have e1 : p = ((2 * (j : Int) - 1 : Int) : Rat) * u := Rat.le_antisymm (by rw [e]; exact Rat.le_trans h b2) a1
    have e2 : q = ((2 * (k : Int) + 1 : Int) : Rat) * u := Rat.le_antisymm b2 (by rw [← e]; exact Rat.le_trans a1 h)
    have := a3 e1
    have := b4 e2
    omega
  · exact hk

theorem last_mono {p q : Rat} {S T : Nat} (h : p ≤ q) (h1 : Last p S) (h2 : Last q T) : S ≤ T := by
  rcases Nat.lt_or_ge T S with hk | hk
  · rcases h1.1 with h0 | h0
    · omega
    · have h3 := lt_of_le_lt (Rat.le_trans h0 h) h2.2
      have e : ((S : Int) - 1075) = ((T : Int) - 1075) + ((S - T : Nat) : Int) := by omega
      rw [e, p2_add] at h3
      have hu := p2_pos ((T : Int) - 1075)
      have h4 : (2 : Rat) ≤ p2 ((S - T : Nat) : Int) := by
        have := p2_mono (a := 1) (b := ((S - T : Nat) : Int)) (by omega)
        rwa [p2_one] at this
      have h5 := Rat.mul_le_mul_of_nonneg_right h4 (Rat.le_of_lt hu)
      have e1 : ((18014398509481984 : Int) : Rat) = ((9007199254740992 : Int) : Rat) * 2 := by rw [show (18014398509481984 : Int) = 9007199254740992 * 2 from rfl, Rat.intCast_mul]; rfl
      have hn : (0 : Rat) ≤ ((9007199254740992 : Int) : Rat) := by rw [show (0 : Rat) = ((0 : Int) : Rat) from rfl]; exact Rat.intCast_le_intCast.2 (by omega)
      rw [e1] at h3
      generalize ((9007199254740992 : Int) : Rat) = N at *
      have h6 := Rat.mul_le_mul_of_nonneg_left h5 hn
      grind
  · exact hk

theorem near_mono {p q : Rat} {r s : Nat} (h : p ≤ q) (h1 : Near p r) (h2 : Near q s) : r ≤ s := by
  rcases h1 with ⟨_, rfl⟩ | ⟨hp, S, j, a1, a2, rfl⟩
  · omega
  · rcases h2 with ⟨hq, _⟩ | ⟨hq, T, k, b1, b2, rfl⟩
    · grind
    · have hST := last_mono h a1 b1
      have c1 := kept_bounds a1 a2
      have c2 := kept_bounds b1 b2
      rcases Nat.lt_or_ge S T with hk | hk
      · omega
      · have e : S = T := by omega
        subst e
        have := half_mono (p2_pos _) h a2 b2
        omega

theorem near_nonneg {q : Rat} {r : Nat} (h : Near q r) : 0 ≤ q ∧ r ≤ 9218868437227405312 := by
  rcases h with ⟨rfl, rfl⟩ | ⟨hq, T, k, _, _, rfl⟩
  · exact ⟨by decide, by omega⟩
  · exact ⟨Rat.le_of_lt hq, by omega⟩

theorem near_fun {q : Rat} {r s : Nat} (h1 : Near q r) (h2 : Near q s) : r = s := Nat.le_antisymm (near_mono Rat.le_refl h1 h2) (near_mono Rat.le_refl h2 h1)

/-- What lies in a window whose top is the number's. -/
theorem win_near (ns : List Nat) (low at' : Int) (ho : val ns % 2 = 1) (hlog : low + (Nat.log2 (val ns) : Nat) - at' ≤ 53) :
    win ns low at' < 18014398509481984 ∧ ((win ns low at' : Int) : Rat) * p2 at' ≤ magR ns low ∧ magR ns low < (((win ns low at' : Int) + 1 : Int) : Rat) * p2 at' ∧ (at' ≤ low → magR ns low = ((win ns low at' : Int) : Rat) * p2 at') ∧ (low < at' → magR ns low ≠ ((win ns low at' : Int) : Rat) * p2 at') := by
  have hV0 : val ns ≠ 0 := by omega
  have hl1 : val ns < 2 ^ (Nat.log2 (val ns) + 1) := Nat.lt_log2_self
  have hu := p2_pos at'
  by_cases hc : at' ≤ low
  · have hw : win ns low at' = val ns * 2 ^ (low - at').toNat ∧ val ns * 2 ^ (low - at').toNat < 18014398509481984 := by
      have hb : val ns * 2 ^ (low - at').toNat < 18014398509481984 := by
        have h1 : val ns * 2 ^ (low - at').toNat < 2 ^ (Nat.log2 (val ns) + 1) * 2 ^ (low - at').toNat := Nat.mul_lt_mul_of_pos_right hl1 (Nat.two_pow_pos _)
        rw [← Nat.pow_add] at h1
        exact Nat.lt_of_lt_of_le h1 (Nat.pow_le_pow_right (by omega) (by omega : Nat.log2 (val ns) + 1 + (low - at').toNat ≤ 54))
      refine ⟨?_, hb⟩
      unfold win
      by_cases h : at' < low
      · rw [if_pos h, Nat.mod_eq_of_lt (by omega)]
      · rw [if_neg h]
        have : at' = low := by omega
        subst this
        simp only [Int.sub_self, Int.toNat_zero, Nat.pow_zero, Nat.mul_one, Nat.div_one] at hb ⊢
        exact Nat.mod_eq_of_lt (by omega)
    have hm : magR ns low = ((win ns low at' : Int) : Rat) * p2 at' := by
      rw [hw.1]; exact magR_at ns low at' _ (by omega)
    refine ⟨by rw [hw.1]; exact hw.2, by rw [hm]; exact Rat.le_refl, by rw [hm]; exact lt_int hu (by omega), fun _ => hm, fun h => by omega⟩
  · have hj : 1 ≤ (at' - low).toNat := by omega
    have hpow : 0 < 2 ^ (at' - low).toNat := Nat.two_pow_pos _
    have hb : val ns / 2 ^ (at' - low).toNat < 18014398509481984 := by
      rw [Nat.div_lt_iff_lt_mul hpow]
      refine Nat.lt_of_lt_of_le hl1 ?_
      rw [show (18014398509481984 : Nat) = 2 ^ 54 from rfl, ← Nat.pow_add]
      exact Nat.pow_le_pow_right (by omega) (by omega)
    have hw : win ns low at' = val ns / 2 ^ (at' - low).toNat := by
      unfold win
      rw [if_neg (by omega), Nat.mod_eq_of_lt (by omega)]
    have e : p2 at' = ((2 ^ (at' - low).toNat : Nat) : Int) * p2 low := by
      have := p2_nat (at' - low).toNat
      rw [show (((2 ^ (at' - low).toNat : Nat) : Int) : Rat) = ((2 ^ (at' - low).toNat : Nat) : Rat) from rfl, ← this, ← p2_add]
      congr 1; omega
    have hm : magR ns low = ((val ns : Int) : Rat) * p2 low := rfl
    have hodd : 2 ^ (at' - low).toNat % 2 = 0 := by
      obtain ⟨j, hj2⟩ : ∃ j, (at' - low).toNat = j + 1 := ⟨(at' - low).toNat - 1, by omega⟩
      rw [hj2, Nat.pow_succ]; omega
    have hd := Nat.div_add_mod (val ns) (2 ^ (at' - low).toNat)
    have hml := Nat.mod_lt (val ns) hpow
    have hu0 := p2_pos low
    rw [hw, hm, e]
    generalize 2 ^ (at' - low).toNat = P at *
    generalize val ns / P = W at *
    generalize val ns % P = R at *
    generalize val ns = V at *
    have t1 : ∀ x : Int, ((x : Int) : Rat) * (((P : Nat) : Int) * p2 low) = ((x * (P : Int) : Int) : Rat) * p2 low := fun x => by rw [Rat.intCast_mul, Rat.mul_assoc]
    rw [t1, t1]
    have z : (W : Int) * (P : Int) + (R : Int) = (V : Int) := by rw [← hd, Int.natCast_add, Int.natCast_mul, Int.mul_comm]
    have z2 : ((W : Int) + 1) * (P : Int) = (W : Int) * (P : Int) + (P : Int) := by rw [Int.add_mul, Int.one_mul]
    refine ⟨hb, le_int hu0 (by omega), lt_int hu0 (by omega), fun h => by omega, fun _ h => ?_⟩
    have h1 := int_le hu0 (le_of_same h)
    have h2 := int_le hu0 (le_of_same h.symm)
    have h3 : V = P * W := by
      have : (V : Int) = (W : Int) * (P : Int) := by omega
      rw [Int.mul_comm] at this
      exact_mod_cast this
    have : V % 2 = 0 := by rw [h3, Nat.mul_mod, hodd]; simp
    omega

/-- The unit that is kept, of what the window shows. -/
theorem half_of {q u : Rat} {W : Nat} {exact : Prop} (hu : 0 < u) (h1 : ((W : Int) : Rat) * u ≤ q) (h2 : q < (((W : Int) + 1 : Int) : Rat) * u) (h3 : exact → q = ((W : Int) : Rat) * u) (h4 : ¬ exact → q ≠ ((W : Int) : Rat) * u) :
    (W % 2 = 0 → Half q u (W / 2)) ∧ (W % 2 = 1 → ¬ exact → Half q u (W / 2 + 1)) ∧ (W % 2 = 1 → exact → W / 2 % 2 = 1 → Half q u (W / 2 + 1)) ∧ (W % 2 = 1 → exact → W / 2 % 2 = 0 → Half q u (W / 2)) := by
  have ne1 : ∀ {x : Int}, (W : Int) < x → q = (x : Rat) * u → x = (W : Int) + 1 → False := fun {x} _ e hx => by
    rw [e, hx] at h2; exact Rat.lt_irrefl h2
  refine ⟨fun h => ?_, fun h hn => ?_, fun h he hk => ?_, fun h he hk => ?_⟩
  · refine ⟨Rat.le_trans (le_int hu (by omega)) h1, Rat.le_trans (Rat.le_of_lt h2) (le_int hu (by omega)), fun e => ?_, fun e => ?_⟩
    · have := int_le hu (e ▸ h1); omega
    · exact (ne1 (by omega) e (by omega)).elim
  · refine ⟨Rat.le_trans (le_int hu (by omega)) h1, Rat.le_trans (Rat.le_of_lt h2) (le_int hu (by omega)), fun e => ?_, fun e => ?_⟩
    · refine absurd ?_ (h4 hn); rw [e]; congr 2; omega
    · have := int_lt hu (e ▸ h2); omega
  · refine ⟨Rat.le_trans (le_int hu (by omega)) h1, Rat.le_trans (Rat.le_of_lt h2) (le_int hu (by omega)), fun e => ?_, fun e => ?_⟩
    · omega
    · have := int_lt hu (e ▸ h2); omega
  · refine ⟨Rat.le_trans (le_int hu (by omega)) h1, ?_, fun e => ?_, fun e => ?_⟩
    · rw [h3 he]; exact le_int hu (by omega)
    · exact hk
    · exact hk

end Go.Proofs.YtfnjlkhgjlihoaaDoor
