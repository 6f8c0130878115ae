/- What the law of order asks of the highest and lowest bit, in plain numbers. -/
import Derived.Test.YtfnjlkhgjlihoaaDoorLg
namespace Go.Proofs.YtfnjlkhgjlihoaaDoor

theorem odd_ge {q : Rat} {l m : Int} (h : q = ((2 * m + 1 : Int) : Rat) * p2 l) : p2 l ≤ q ∨ p2 l ≤ -q := by
  have hp := p2_pos l
  rcases Int.le_total 0 m with hm | hm
  · left
    have : (1 : Rat) ≤ ((2 * m + 1 : Int) : Rat) := by
      rw [show (1 : Rat) = ((1 : Int) : Rat) from rfl]; exact Rat.intCast_le_intCast.2 (by omega)
    have := Rat.mul_le_mul_of_nonneg_right this (Rat.le_of_lt hp)
    rw [h]; grind
  · rcases (by omega : m = 0 ∨ m < 0) with e | e
    · subst e
      left
      rw [h, show ((2 * 0 + 1 : Int) : Rat) = 1 from rfl]; grind
    · right
      have : ((2 * m + 1 : Int) : Rat) ≤ (-1 : Rat) := by
        rw [show (-1 : Rat) = ((-1 : Int) : Rat) from rfl]; exact Rat.intCast_le_intCast.2 (by omega)
      have := Rat.mul_le_mul_of_nonneg_right this (Rat.le_of_lt hp)
      rw [h]; grind

theorem low_le_high {q : Rat} {l h : Int} (hl : LowOf q l) (hh : HighOf q h) (hq : q ≠ 0) : l ≤ h := by
  rcases hl with ⟨e, _⟩ | ⟨m, e⟩
  · exact absurd e hq
  rcases hh with ⟨e', _⟩ | ⟨_, hh⟩
  · exact absurd e' hq
  have h1 := odd_ge e
  have hp := p2_pos l
  have hp' := p2_pos h
  have : p2 l < p2 (h + 1) := by grind
  have := p2_lt_iff.1 this
  omega

theorem high_range {q : Rat} {h : Int} (hh : HighOf q h) (hb : Bd 2049 (-2148) q) (hq : q ≠ 0) : -2149 ≤ h ∧ h ≤ 2048 := by
  rcases hh with ⟨e', _⟩ | ⟨_, hh⟩
  · exact absurd e' hq
  obtain ⟨b1, b2, n, hn⟩ := hb
  generalize hX : (2049 : Int) = X at *
  have hp := p2_pos h
  have h1 : p2 h < p2 X := by grind
  have h1 := p2_lt_iff.1 h1
  have hn0 : n ≠ 0 := by rintro rfl; apply hq; rw [hn]; simp
  have hp2 := p2_pos (-2148)
  generalize hY : (-2148 : Int) = Y at *
  have h2 : p2 Y ≤ q ∨ p2 Y ≤ -q := by
    rcases Int.lt_or_gt_of_ne hn0 with e | e
    · right
      have : (n : Rat) ≤ (-1 : Rat) := by
        rw [show (-1 : Rat) = ((-1 : Int) : Rat) from rfl]; exact Rat.intCast_le_intCast.2 (by omega)
      have := Rat.mul_le_mul_of_nonneg_right this (Rat.le_of_lt hp2)
      rw [hn]; grind
    · left
      have : (1 : Rat) ≤ (n : Rat) := by
        rw [show (1 : Rat) = ((1 : Int) : Rat) from rfl]; exact Rat.intCast_le_intCast.2 (by omega)
      have := Rat.mul_le_mul_of_nonneg_right this (Rat.le_of_lt hp2)
      rw [hn]; grind
  have h3 : p2 Y < p2 (h + 1) := by grind
  have h3 := p2_lt_iff.1 h3
  subst hY
  omega

theorem oneK_bd (k : Int) : Bd (1 + k) (0 + k) (((1 : Int) : Rat) * p2 k) :=
  Bd.shift (h := 1) (l := 0) ⟨by rw [p2_one]; decide +kernel, by rw [p2_one]; decide +kernel, 1, by rw [p2_zero]; decide +kernel⟩ k

theorem one_may {k : Int} (h1 : -2149 ≤ k) (h2 : k ≤ 2049) : May (((1 : Int) : Rat) * p2 k) := (oneK_bd k).may (by omega) (by omega)

/-- A number's size. -/
theorem high_cmp {q m : Rat} {h : Int} (hh : HighOf q h) (hq : q ≠ 0) (hm : (m = q ∧ 0 ≤ q) ∨ (m = -q ∧ q ≤ 0)) :
    0 ≤ cmpR m (((1 : Int) : Rat) * p2 h) ∧ cmpR m (((1 : Int) : Rat) * p2 (h + 1)) < 0 := by
  rcases hh with ⟨e', _⟩ | ⟨_, hh⟩
  · exact absurd e' hq
  have e : ((1 : Int) : Rat) = 1 := rfl
  have hp := p2_pos h
  have hp' := p2_pos (h + 1)
  rw [e, Rat.one_mul, Rat.one_mul]
  unfold cmpR
  constructor <;> grind

theorem sgn_cases (q : Rat) : (q = 0 ∧ sgnR q = 0) ∨ (q ≠ 0 ∧ 0 ≤ q ∧ sgnR q = 1) ∨ (q ≠ 0 ∧ q ≤ 0 ∧ sgnR q = -1) := by
  unfold sgnR cmpR
  rcases Rat.le_total (a := q) (b := 0) with h | h
  all_goals grind

theorem high_zero {h : Int} (hh : HighOf 0 h) : h = 0 := by
  rcases hh with ⟨_, e⟩ | ⟨e, _⟩
  · exact e
  · exact absurd rfl e
theorem low_zero {l : Int} (hl : LowOf 0 l) : l = 0 := by
  rcases hl with ⟨_, e⟩ | ⟨m, e⟩
  · exact e
  · have := odd_ge e
    have := p2_pos l
    grind

end Go.Proofs.YtfnjlkhgjlihoaaDoor
