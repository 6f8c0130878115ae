/- Own texts, put together: Ea En Eb Ec. -/
import Derived.Test.YtgoadpnoagaflaaDoorQ1
import Derived.Test.YtgoadpnoagaflaaDoorQ6
import Derived.WalkKit
import Derived.WalkSpells
import Derived.WalkLawsBesides
import Derived.Laws.FloatArith
namespace Go.Proofs.YtgoadpnoagaflaaDoor
/- Floats that are not below 0 are in the order of their words. -/
section
theorem fval_lt {r s : Nat} (h : r < s) (hs : s < 9218868437227405312) : fval r < fval s := by
 have h1 := (fval_pos_lt (Nat.lt_trans h hs)).1
 have h2 := (fval_pos_lt hs).1
 have key : (fpl r = fpl s ∧ fmag r < fmag s) ∨ (fpl r + 1 ≤ fpl s ∧ 4503599627370496 ≤ fmag s) := by
   unfold fpl fmag
   split <;> split <;> omega
 have hm := fmag_lt r
 rw [h1, h2]
 rcases key with ⟨e, hm⟩ | ⟨e, hm'⟩
 · rw [e]
   exact Rat.mul_lt_mul_of_pos_right (Rat.natCast_lt_natCast.2 hm) (p2_pos _)
 · have a1 := Rat.mul_lt_mul_of_pos_right (Rat.natCast_lt_natCast.2 hm) (p2_pos (fpl r))
   have a2 : ((9007199254740992 : Nat) : Rat) * p2 (fpl r) = ((4503599627370496 : Nat) : Rat) * p2 (fpl r + 1) := by
     rw [p2_add, p2_one, show ((9007199254740992 : Nat) : Rat) = ((4503599627370496 : Nat) : Rat) * 2 by decide +kernel]
     generalize ((4503599627370496 : Nat) : Rat) = X
     grind
   have a3 := Rat.mul_le_mul_of_nonneg_left (p2_mono e) (Rat.natCast_nonneg (a := 4503599627370496))
   have a4 := Rat.mul_le_mul_of_nonneg_right (Rat.natCast_le_natCast.2 hm') (Rat.le_of_lt (p2_pos (fpl s)))
   rw [a2] at a1
   generalize ((fmag r : Nat) : Rat) * p2 (fpl r) = X at *
   generalize ((4503599627370496 : Nat) : Rat) * p2 (fpl r + 1) = Y at *
   generalize ((4503599627370496 : Nat) : Rat) * p2 (fpl s) = Z at *
   generalize ((fmag s : Nat) : Rat) * p2 (fpl s) = V at *
   grind
theorem fval_word {r : Nat} (h : r < 9218868437227405312) : fval (9223372036854775808 + r) = -fval r := by
 have e1 : frung (9223372036854775808 + r) = r := by unfold frung; omega
 have e2 : fneg (9223372036854775808 + r) = true := by unfold fneg; simp; omega
 have e3 : frung r = r := by unfold frung; omega
 have e4 : fneg r = false := by unfold fneg; simp; omega
 unfold fval
 rw [e1, e2, e3, e4]
 unfold sgn1
 rw [if_pos rfl, if_neg (by decide)]
 generalize ((fmag r : Nat) : Rat) * p2 (fpl r) = X
 grind
end

/- The float nearest to a number: plain facts. -/
section
def Half (q u : Rat) (k : Nat) : Prop :=
 ((2 * (k : Int) - 1 : Int) : Rat) * u ≤ q ∧ q ≤ ((2 * (k : Int) + 1 : Int) : Rat) * u ∧ (q = ((2 * (k : Int) - 1 : Int) : Rat) * u → k % 2 = 0) ∧ (q = ((2 * (k : Int) + 1 : Int) : Rat) * u → k % 2 = 0)
def Last (q : Rat) (T : Nat) : Prop := (T = 0 ∨ ((9007199254740992 : Int) : Rat) * p2 ((T : Int) - 1075) ≤ q) ∧ q < ((18014398509481984 : Int) : Rat) * p2 ((T : Int) - 1075)
def Near (q : Rat) (r : Nat) : Prop :=
 (q = 0 ∧ r = 0) ∨ (0 < q ∧ ∃ T k : Nat, Last q T ∧ Half q (p2 ((T : Int) - 1075)) k ∧ r = min (T * 4503599627370496 + k) 9218868437227405312)
theorem lt_of_le_lt {a b c : Rat} (h1 : a ≤ b) (h2 : b < c) : a < c := by grind
theorem lt_of_lt_le {a b c : Rat} (h1 : a < b) (h2 : b ≤ c) : a < c := by grind
theorem le_of_same {a b : Rat} (h : a = b) : a ≤ b := by rw [h]; exact Rat.le_refl
theorem int_le {a b : Int} {u : Rat} (hu : 0 < u) (h : (a : Rat) * u ≤ (b : Rat) * u) : a ≤ b := by
 rcases Int.lt_or_le b a with h1 | h1
 · have h2 : (b : Rat) < (a : Rat) := Rat.intCast_lt_intCast.2 h1
   have h3 := Rat.mul_lt_mul_of_pos_right h2 hu
   grind
 · exact h1
theorem int_lt {a b : Int} {u : Rat} (hu : 0 < u) (h : (a : Rat) * u < (b : Rat) * u) : a < b := by
 rcases Int.lt_or_le a b with h1 | h1
 · exact h1
 · have h2 : (b : Rat) ≤ (a : Rat) := Rat.intCast_le_intCast.2 h1
   have h3 := Rat.mul_le_mul_of_nonneg_right h2 (Rat.le_of_lt hu)
   grind
theorem le_int {a b : Int} {u : Rat} (hu : 0 < u) (h : a ≤ b) : (a : Rat) * u ≤ (b : Rat) * u :=
 Rat.mul_le_mul_of_nonneg_right (Rat.intCast_le_intCast.2 h) (Rat.le_of_lt hu)
theorem kept_bounds {q : Rat} {T k : Nat} (hl : Last q T) (hh : Half q (p2 ((T : Int) - 1075)) k) : k ≤ 9007199254740992 ∧ (T = 0 ∨ 4503599627370496 ≤ k) := by
 obtain ⟨h1, h2⟩ := hl
 obtain ⟨h3, h4, _, _⟩ := hh
 have hu := p2_pos ((T : Int) - 1075)
 have a := int_lt hu (lt_of_le_lt h3 h2)
 refine ⟨by omega, h1.imp id fun h => ?_⟩
 have b := int_le hu (Rat.le_trans h h4)
 omega
theorem half_mono {p q u : Rat} {j k : Nat} (hu : 0 < u) (h : p ≤ q) (h1 : Half p u j) (h2 : Half q u k) : j ≤ k := by
 obtain ⟨a1, a2, a3, a4⟩ := h1
 obtain ⟨b1, b2, b3, b4⟩ := h2
 have c := int_le hu (Rat.le_trans (Rat.le_trans a1 h) b2)
 rcases Nat.lt_or_ge k j with hk | hk
 · have e : (2 * (j : Int) - 1 : Int) = 2 * (k : Int) + 1 := by omega
   have e1 : p = ((2 * (j : Int) - 1 : Int) : Rat) * u := Rat.le_antisymm (by rw [e]; exact Rat.le_trans h b2) a1
   have e2 : q = ((2 * (k : Int) + 1 : Int) : Rat) * u := Rat.le_antisymm b2 (by rw [← e]; exact Rat.le_trans a1 h)
   have := a3 e1
   have := b4 e2
   omega
 · exact hk
theorem last_mono {p q : Rat} {S T : Nat} (h : p ≤ q) (h1 : Last p S) (h2 : Last q T) : S ≤ T := by
 rcases Nat.lt_or_ge T S with hk | hk
 · rcases h1.1 with h0 | h0
   · omega
   · have h3 := lt_of_le_lt (Rat.le_trans h0 h) h2.2
     have e : ((S : Int) - 1075) = ((T : Int) - 1075) + ((S - T : Nat) : Int) := by omega
     rw [e, p2_add] at h3
     have hu := p2_pos ((T : Int) - 1075)
     have h4 : (2 : Rat) ≤ p2 ((S - T : Nat) : Int) := by
       have := p2_mono (a := 1) (b := ((S - T : Nat) : Int)) (by omega)
       rwa [p2_one] at this
     have h5 := Rat.mul_le_mul_of_nonneg_right h4 (Rat.le_of_lt hu)
     have e1 : ((18014398509481984 : Int) : Rat) = ((9007199254740992 : Int) : Rat) * 2 := by rw [show (18014398509481984 : Int) = 9007199254740992 * 2 from rfl, Rat.intCast_mul]; rfl
     have hn : (0 : Rat) ≤ ((9007199254740992 : Int) : Rat) := by rw [show (0 : Rat) = ((0 : Int) : Rat) from rfl]; exact Rat.intCast_le_intCast.2 (by omega)
     rw [e1] at h3
     generalize ((9007199254740992 : Int) : Rat) = N at *
     have h6 := Rat.mul_le_mul_of_nonneg_left h5 hn
     grind
 · exact hk
theorem near_mono {p q : Rat} {r s : Nat} (h : p ≤ q) (h1 : Near p r) (h2 : Near q s) : r ≤ s := by
 rcases h1 with ⟨_, rfl⟩ | ⟨hp, S, j, a1, a2, rfl⟩
 · omega
 · rcases h2 with ⟨hq, _⟩ | ⟨hq, T, k, b1, b2, rfl⟩
   · grind
   · have hST := last_mono h a1 b1
     have c1 := kept_bounds a1 a2
     have c2 := kept_bounds b1 b2
     rcases Nat.lt_or_ge S T with hk | hk
     · omega
     · have e : S = T := by omega
       subst e
       have := half_mono (p2_pos _) h a2 b2
       omega
theorem near_nonneg {q : Rat} {r : Nat} (h : Near q r) : 0 ≤ q ∧ r ≤ 9218868437227405312 := by
 rcases h with ⟨rfl, rfl⟩ | ⟨hq, T, k, _, _, rfl⟩
 · exact ⟨by decide, by omega⟩
 · exact ⟨Rat.le_of_lt hq, by omega⟩
theorem near_fun {q : Rat} {r s : Nat} (h1 : Near q r) (h2 : Near q s) : r = s := Nat.le_antisymm (near_mono Rat.le_refl h1 h2) (near_mono Rat.le_refl h2 h1)
theorem near_zero {r : Nat} (h : Near 0 r) : r = 0 := near_fun h (Or.inl ⟨rfl, rfl⟩)
end

/- Which floats are tame, which are safe: the program's. -/
section
open Go.RowKit
def SafeW (r : Nat) : Prop := r = 0 ∨ (2580562586483294208 ≤ r ∧ r ≤ 6633802251116740608)
instance (r : Nat) : Decidable (SafeW r) := by unfold SafeW; exact inferInstance
end

/- Which floats are tame, which are safe: the document's. -/
section
open Go.RowKit
end
end Go.Proofs.YtgoadpnoagaflaaDoor
