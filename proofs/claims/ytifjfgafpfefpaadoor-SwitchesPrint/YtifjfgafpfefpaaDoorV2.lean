/- Own texts, put together: M M2 M3 M5. -/
import Derived.Laws.BitsAllLaws
namespace Go.Proofs.YtifjfgafpfefpaaDoor
/- Plain facts on words of 64 bits: the number that a list of words tells, its windows, and how they come of the words. -/
section
def val : List Nat → Nat
 | [] => 0
 | n :: r => n + 18446744073709551616 * val r
def Small (ns : List Nat) : Prop := ∀ n, n ∈ ns → n < 18446744073709551616
end

/- Plain facts: the words of a number, cut out at a bit; a magnitude in its own form. -/
section
end

/- Plain facts: two magnitudes brought to one lowest bit. -/
section
end

/- Plain facts: numbers as rationals; which may be. -/
section
def p2 (e : Int) : Rat := 2 ^ e
theorem p2_pos (e : Int) : 0 < p2 e := Rat.zpow_pos (by decide)
theorem p2_ne (e : Int) : p2 e ≠ 0 := Rat.ne_of_gt (p2_pos e)
theorem p2_add (a b : Int) : p2 (a + b) = p2 a * p2 b := Rat.zpow_add (by decide) a b
theorem p2_zero : p2 0 = 1 := Rat.zpow_zero 2
theorem p2_one : p2 1 = 2 := Rat.zpow_one 2
theorem p2_nat (n : Nat) : p2 (n : Int) = ((2 ^ n : Nat) : Rat) := by
 unfold p2; rw [Rat.zpow_natCast, Rat.natCast_pow]; rfl
theorem p2_neg (e : Int) : p2 (-e) * p2 e = 1 := by rw [← p2_add, Int.add_left_neg, p2_zero]
theorem p2_le_nat (n : Nat) : 1 ≤ p2 (n : Int) := by
 rw [p2_nat]
 have h : 1 ≤ 2 ^ n := Nat.two_pow_pos n
 have := (Rat.natCast_le_natCast (a := 1) (b := 2 ^ n)).2 h
 simpa using this
theorem p2_mono {a b : Int} (h : a ≤ b) : p2 a ≤ p2 b := by
 obtain ⟨n, rfl⟩ : ∃ n : Nat, b = a + (n : Int) := ⟨(b - a).toNat, by omega⟩
 rw [p2_add]
 have h1 := Rat.mul_le_mul_of_nonneg_left (p2_le_nat n) (Rat.le_of_lt (p2_pos a))
 grind
theorem p2_lt {a b : Int} (h : a < b) : p2 a < p2 b := by
 have h1 : p2 (a + 1) ≤ p2 b := p2_mono (by omega)
 have h2 := p2_pos a
 rw [p2_add, p2_one] at h1
 grind
theorem p2_le_iff {a b : Int} : p2 a ≤ p2 b ↔ a ≤ b := by
 refine ⟨fun h => ?_, p2_mono⟩
 rcases Int.lt_or_le b a with h1 | h1
 · have := p2_lt h1; grind
 · exact h1
theorem p2_lt_iff {a b : Int} : p2 a < p2 b ↔ a < b := by
 refine ⟨fun h => ?_, p2_lt⟩
 rcases Int.lt_or_le a b with h1 | h1
 · exact h1
 · have := p2_mono h1; grind
theorem nat_mul_p2 (V k : Nat) : ((V * 2 ^ k : Nat) : Rat) = (V : Nat) * p2 (k : Nat) := by rw [p2_nat, Rat.natCast_mul]
end
end Go.Proofs.YtifjfgafpfefpaaDoor
