/- Own texts, put together: Eo Ec. -/
import Derived.Test.YtifjfgafpfefpaaDoorV5
namespace Go.Proofs.YtifjfgafpfefpaaDoor
/- The model's rounding is to the nearest, the even one between two. -/
section
theorem cut_even (neg : Bool) (n d : Nat) : ∃ k, Ieee.Toward.even.cut neg n d = k ∧ 2 * (k * 2 ^ d) ≤ 2 * n + 2 ^ d ∧ 2 * n ≤ 2 * (k * 2 ^ d) + 2 ^ d ∧ (2 * (k * 2 ^ d) = 2 * n + 2 ^ d → k % 2 = 0) ∧ (2 * n = 2 * (k * 2 ^ d) + 2 ^ d → k % 2 = 0) := by
 refine ⟨_, rfl, ?_⟩
 unfold Ieee.Toward.cut
 simp only [Nat.shiftLeft_eq, Nat.one_mul]
 rcases Nat.lt_or_ge (n.log2 + 2) d with h | h
 · rw [Nat.min_eq_right (by omega)]
   have h1 : n < 2 ^ (n.log2 + 1) := Nat.lt_log2_self
   have h2 : 2 ^ (n.log2 + 2) = 2 * 2 ^ (n.log2 + 1) := by rw [Nat.pow_succ]; omega
   have h3 : 2 ^ (n.log2 + 2) ≤ 2 ^ d := Nat.pow_le_pow_right (by omega) (by omega)
   generalize hg : 2 ^ (n.log2 + 2) = g at *
   generalize 2 ^ (n.log2 + 1) = g1 at *
   generalize 2 ^ d = D at *
   have e1 : n / g = 0 := Nat.div_eq_of_lt (by omega)
   have e2 : n % g = n := Nat.mod_eq_of_lt (by omega)
   rw [e1, e2]
   have e3 : (decide (g < 2 * n) || g == 2 * n && 0 % 2 == 1) = false := by simp; omega
   rw [e3]
   simp
   omega
 · rw [Nat.min_eq_left h]
   have hg : 0 < 2 ^ d := Nat.two_pow_pos d
   generalize 2 ^ d = g at *
   have hd := Nat.div_add_mod n g
   have hm := Nat.mod_lt n hg
   generalize n / g = low at *
   generalize n % g = rest at *
   rw [Nat.mul_comm] at hd
   by_cases hmore : g < 2 * rest ∨ (g = 2 * rest ∧ low % 2 = 1)
   · have e3 : (decide (g < 2 * rest) || g == 2 * rest && low % 2 == 1) = true := by simpa using hmore
     rw [e3]
     have : (low + true.toNat) * g = low * g + g := by simp [Nat.add_mul]
     rw [this]
     generalize low * g = P at *
     refine ⟨by omega, by omega, ?_, ?_⟩
     · intro h; simp; omega
     · intro h; simp; omega
   · have e3 : (decide (g < 2 * rest) || g == 2 * rest && low % 2 == 1) = false := by
       rw [Bool.eq_false_iff]; intro h; apply hmore; simpa using h
     rw [e3]
     have : (low + false.toNat) * g = low * g := by simp
     rw [this]
     generalize low * g = P at *
     refine ⟨by omega, by omega, ?_, ?_⟩
     · intro h; simp; omega
     · intro h; simp; omega
theorem int_eq {a b : Int} {u : Rat} (hu : 0 < u) (h : (a : Rat) * u = (b : Rat) * u) : a = b :=
 Int.le_antisymm (int_le hu (le_of_same h)) (int_le hu (le_of_same h.symm))
theorem log_bounds (mag : Nat) (hm : mag ≠ 0) (place : Int) : p2 (place + (mag.log2 : Nat)) ≤ (mag : Nat) * p2 place ∧ ((mag : Nat) : Rat) * p2 place < p2 (place + (mag.log2 : Nat) + 1) := by
 have h1 : 2 ^ mag.log2 ≤ mag := Nat.log2_self_le hm
 have h2 : mag < 2 ^ (mag.log2 + 1) := Nat.lt_log2_self
 have hp := p2_pos place
 constructor
 · rw [p2_add, p2_nat, Rat.mul_comm]
   exact Rat.mul_le_mul_of_nonneg_right (Rat.natCast_le_natCast.2 h1) (Rat.le_of_lt hp)
 · rw [show place + (mag.log2 : Nat) + 1 = place + ((mag.log2 + 1 : Nat) : Int) by omega, p2_add, p2_nat, Rat.mul_comm (p2 place)]
   exact Rat.mul_lt_mul_of_pos_right (Rat.natCast_lt_natCast.2 h2) hp
theorem nearest_near (neg : Bool) (mag : Nat) (place : Int) (hm : mag ≠ 0) : ∃ r, Ieee.double.nearest neg mag place = Ieee.double.word neg r ∧ Near ((mag : Nat) * p2 place) r := by
 unfold Ieee.Format.nearest
 rw [if_neg hm]
 simp only [d_lp, d_bin, d_inf, show Ieee.double.fractionBits = 52 from rfl]
 obtain ⟨last, hlast⟩ : ∃ l : Int, l = max (place + (mag.log2 : Nat) - ((52 : Nat) : Int)) (-1074) := ⟨_, rfl⟩
 rw [← hlast]
 obtain ⟨k, hk, c1, c2, c3, c4⟩ := cut_even neg (mag <<< (place - last).toNat) (last - place).toNat
 rw [hk]
 refine ⟨_, rfl, Or.inr ⟨?_, (last + 1074).toNat, k, ?_, ?_, by rw [show last - -1074 = last + 1074 by omega]⟩⟩
 · exact Rat.mul_pos (Rat.natCast_pos.2 (by omega)) (p2_pos _)
 · have hb := log_bounds mag hm place
   have eT : (((last + 1074).toNat : Nat) : Int) - 1075 = last - 1 := by omega
   rw [Last, eT]
   have x1 : ((9007199254740992 : Int) : Rat) * p2 (last - 1) = p2 (last + 52) := by
     rw [show last + 52 = (last - 1) + ((53 : Nat) : Int) by omega, p2_add, p2_nat, Rat.mul_comm]; rfl
   have x2 : ((18014398509481984 : Int) : Rat) * p2 (last - 1) = p2 (last + 53) := by
     rw [show last + 53 = (last - 1) + ((54 : Nat) : Int) by omega, p2_add, p2_nat, Rat.mul_comm]; rfl
   rw [x1, x2]
   constructor
   · by_cases h : last = -1074
     · left; omega
     · right
       have := p2_mono (a := last + 52) (b := place + (mag.log2 : Nat)) (by omega)
       exact Rat.le_trans this hb.1
   · exact lt_of_lt_le hb.2 (p2_mono (by omega))
 · have eT : (((last + 1074).toNat : Nat) : Int) - 1075 = last - 1 := by omega
   rw [eT]
   generalize hd : (last - place).toNat = d at *
   generalize hn : mag <<< (place - last).toNat = n at *
   rw [Nat.shiftLeft_eq] at hn
   have hv := p2_pos (last - (d : Nat) - 1)
   have e1 : ((mag : Nat) : Rat) * p2 place = ((2 * (n : Int) : Int) : Rat) * p2 (last - (d : Nat) - 1) := by
     have a1 : ((2 * (n : Int) : Int) : Rat) = 2 * ((n : Nat) : Rat) := by rw [Rat.intCast_mul]; rfl
     have a2 : p2 (last - (d : Nat)) = 2 * p2 (last - (d : Nat) - 1) := by
       have := p2_add 1 (last - (d : Nat) - 1)
       rwa [p2_one, show 1 + (last - (d : Nat) - 1) = last - (d : Nat) by omega] at this
     have a3 : ((mag : Nat) : Rat) * p2 place = ((n : Nat) : Rat) * p2 (last - (d : Nat)) := by
       rw [← hn, nat_mul_p2, Rat.mul_assoc, ← p2_add]
       congr 2; omega
     rw [a3, a1, a2]
     generalize p2 (last - (d : Nat) - 1) = v
     grind
   have e2 : ∀ z : Int, (z : Rat) * p2 (last - 1) = ((z * ((2 ^ d : Nat) : Int) : Int) : Rat) * p2 (last - (d : Nat) - 1) := fun z => by
     rw [show last - 1 = (d : Nat) + (last - (d : Nat) - 1) by omega, p2_add, p2_nat, Rat.intCast_mul, Rat.mul_assoc]; rfl
   rw [e1]
   unfold Half
   rw [e2, e2]
   have y1 : (2 * (k : Int) - 1) * ((2 ^ d : Nat) : Int) = 2 * ((k * 2 ^ d : Nat) : Int) - ((2 ^ d : Nat) : Int) := by rw [Int.natCast_mul]; grind
   have y2 : (2 * (k : Int) + 1) * ((2 ^ d : Nat) : Int) = 2 * ((k * 2 ^ d : Nat) : Int) + ((2 ^ d : Nat) : Int) := by rw [Int.natCast_mul]; grind
   rw [y1, y2]
   generalize k * 2 ^ d = P at *
   generalize 2 ^ d = D at *
   refine ⟨le_int hv (by omega), le_int hv (by omega), ?_, ?_⟩
   · intro h
     have := int_eq hv h
     exact c3 (by omega)
   · intro h
     have := int_eq hv h
     exact c4 (by omega)
end

/- Which floats are tame, which are safe: the document's. -/
section
open Go.RowKit
end
end Go.Proofs.YtifjfgafpfefpaaDoor
