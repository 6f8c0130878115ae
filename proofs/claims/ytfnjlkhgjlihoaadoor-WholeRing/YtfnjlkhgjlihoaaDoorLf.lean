/- What the laws of order and of the ring ask, in plain numbers. -/
import Derived.Test.YtfnjlkhgjlihoaaDoorLd
namespace Go.Proofs.YtfnjlkhgjlihoaaDoor

theorem cmpR_self (p : Rat) : cmpR p p = 0 := by unfold cmpR; rw [if_neg Rat.lt_irrefl, if_neg Rat.lt_irrefl]
theorem cmpR_neg (p q : Rat) : cmpR q p = -cmpR p q := by
  unfold cmpR
  rcases Rat.le_total (a := p) (b := q) with h | h
  all_goals grind
theorem cmpR_sub (p q : Rat) : sgnR (p - q) = cmpR p q := by unfold sgnR cmpR; grind
theorem cmpR_add (p q r : Rat) : cmpR (p + r) (q + r) = cmpR p q := by unfold cmpR; grind
theorem sgnR_neg (p : Rat) : sgnR (-p) = -sgnR p := by
  unfold sgnR cmpR
  rcases Rat.le_total (a := p) (b := 0) with h | h
  all_goals grind
theorem sgnR_zero : sgnR 0 = 0 := by unfold sgnR; exact cmpR_self 0
theorem sgnR_mul (p q : Rat) : sgnR (p * q) = sgnR p * sgnR q := by
  have key : ∀ x : Rat, (0 < x ∧ sgnR x = 1) ∨ (x = 0 ∧ sgnR x = 0) ∨ (x < 0 ∧ sgnR x = -1) := fun x => by
    unfold sgnR cmpR
    rcases Rat.le_total (a := x) (b := 0) with h | h
    all_goals grind
  have pos : ∀ {x : Rat}, 0 < x → sgnR x = 1 := fun {x} h => by rcases key x with ⟨_, e⟩ | ⟨e, _⟩ | ⟨e, _⟩ <;> grind
  have neg : ∀ {x : Rat}, x < 0 → sgnR x = -1 := fun {x} h => by rcases key x with ⟨e, _⟩ | ⟨e, _⟩ | ⟨_, e⟩ <;> grind
  rcases key p with ⟨hp, ep⟩ | ⟨hp, ep⟩ | ⟨hp, ep⟩ <;> rcases key q with ⟨hq, eq⟩ | ⟨hq, eq⟩ | ⟨hq, eq⟩ <;> rw [ep, eq]
  · exact pos (Rat.mul_pos hp hq)
  · rw [hq, Rat.mul_zero, sgnR_zero]; rfl
  · have := Rat.mul_pos hp (by grind : 0 < -q); exact neg (by grind)
  · rw [hp, Rat.zero_mul, sgnR_zero]; rfl
  · rw [hp, Rat.zero_mul, sgnR_zero]; rfl
  · rw [hp, Rat.zero_mul, sgnR_zero]; rfl
  · have := Rat.mul_pos (by grind : 0 < -p) hq; exact neg (by grind)
  · rw [hq, Rat.mul_zero, sgnR_zero]; rfl
  · have := Rat.mul_pos (by grind : 0 < -p) (by grind : 0 < -q); exact pos (by grind)

theorem cmpR_trans {p q r : Rat} (h1 : 0 ≤ cmpR p q) (h2 : 0 ≤ cmpR q r) : 0 ≤ cmpR p r := by
  unfold cmpR at *
  grind
theorem cmpR_pos {p q : Rat} (h : 0 < cmpR p q) : q < p := by unfold cmpR at h; grind

/-- A shift and back. -/
theorem shift_back (p : Rat) (k : Int) : p * p2 k * p2 (-k) = p := by
  have h := p2_neg k
  grind

end Go.Proofs.YtfnjlkhgjlihoaaDoor
