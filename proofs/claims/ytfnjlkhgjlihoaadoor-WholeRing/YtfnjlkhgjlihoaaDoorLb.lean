/- Closed floats: what stands for what. -/
import Derived.Test.YtfnjlkhgjlihoaaDoorLa
namespace Go.Proofs.YtfnjlkhgjlihoaaDoor

theorem p2_of (n : Nat) (e : Int) (h : e = (n : Int)) : p2 e = ((2 ^ n : Nat) : Rat) := by rw [h, p2_nat]

theorem p2_inv (e : Int) : p2 e = 1 / p2 (-e) := by
  have h := p2_neg e
  have h1 := p2_ne (-e)
  grind

/-- A float whose number is known. -/
theorem near_exact {q : Rat} {T k : Nat} (hq : 0 < q) (hl : Last q T) (he : q = ((2 * (k : Int) : Int) : Rat) * p2 ((T : Int) - 1075)) (hb : T * 4503599627370496 + k ≤ 9218868437227405312) : Near q (T * 4503599627370496 + k) := by
  refine Or.inr ⟨hq, T, k, hl, ?_, (Nat.min_eq_left hb).symm⟩
  have hu := p2_pos ((T : Int) - 1075)
  refine ⟨by rw [he]; exact le_int hu (by omega), by rw [he]; exact le_int hu (by omega), fun h => ?_, fun h => ?_⟩
  · rw [he] at h
    have := int_le hu (le_of_same h)
    omega
  · rw [he] at h
    have := int_le hu (le_of_same h.symm)
    omega

/-- The number m 2^e, where m has 53 bits. -/
theorem near_norm (T k : Nat) (q : Rat) (h1 : 4503599627370496 ≤ k) (h2 : k < 9007199254740992) (hb : T * 4503599627370496 + k ≤ 9218868437227405312) (he : q = ((k : Int) : Rat) * p2 ((T : Int) - 1074)) : Near q (T * 4503599627370496 + k) := by
  have hu := p2_pos ((T : Int) - 1075)
  have e1 : q = ((2 * (k : Int) : Int) : Rat) * p2 ((T : Int) - 1075) := by
    rw [he, show (T : Int) - 1074 = 1 + ((T : Int) - 1075) by omega, p2_add, p2_one, Rat.intCast_mul]
    have : ((2 : Int) : Rat) = 2 := rfl
    rw [this]; grind
  refine near_exact ?_ ⟨Or.inr ?_, ?_⟩ e1 hb
  · rw [e1]
    have := lt_int hu (show (0 : Int) < 2 * (k : Int) by omega)
    rwa [show ((0 : Int) : Rat) = 0 from rfl, Rat.zero_mul] at this
  · rw [e1]; exact le_int hu (by omega)
  · rw [e1]; exact lt_int hu (by omega)

end Go.Proofs.YtfnjlkhgjlihoaaDoor
