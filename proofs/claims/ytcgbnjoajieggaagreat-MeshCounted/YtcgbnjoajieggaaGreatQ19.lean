/- Own texts, put together: Es. -/
import Derived.Test.YtcgbnjoajieggaaGreatQ16
/- Sums, differences and products of words. -/
namespace Go.Proofs.YtcgbnjoajieggaaGreat
def Lim (q : Rat) : Prop := q < p2 1023 ∧ -q < p2 1023
theorem abs_total (n : Int) (u : Rat) : ((n.natAbs : Nat) : Rat) * u = (if n < 0 then -((n : Rat) * u) else (n : Rat) * u) := by
 by_cases h : n < 0
 · rw [if_pos h]
   have e : ((n.natAbs : Nat) : Rat) = ((-n : Int) : Rat) := by
     rw [show ((n.natAbs : Nat) : Rat) = ((n.natAbs : Int) : Rat) from rfl, show (n.natAbs : Int) = -n by omega]
   rw [e, Rat.intCast_neg]; grind
 · rw [if_neg h]
   rw [show ((n.natAbs : Nat) : Rat) = ((n.natAbs : Int) : Rat) from rfl, show (n.natAbs : Int) = n by omega]
theorem sum_datum (s t : Bool) (m n : Nat) (i j : Int) (hq : Lim (sgn1 s * (((m : Nat) : Rat) * p2 i) + sgn1 t * (((n : Nat) : Rat) * p2 j))) :
   ∃ r, ((Ieee.Datum.number s m i).sum (Ieee.Datum.number t n j)).map Ieee.double.write = some r ∧ Fin64 r ∧ r < 18446744073709551616 ∧ RV (sgn1 s * (((m : Nat) : Rat) * p2 i) + sgn1 t * (((n : Nat) : Rat) * p2 j)) (fval r) := by
 unfold Ieee.Datum.sum
 simp only [Option.map_some]
 obtain ⟨base, hbase⟩ : ∃ b : Int, b = min i j := ⟨_, rfl⟩
 rw [← hbase]
 have e1 := signed_p2 s m (i - base).toNat base
 have e2 := signed_p2 t n (j - base).toNat base
 rw [show base + (((i - base).toNat : Nat) : Int) = i by omega] at e1
 rw [show base + (((j - base).toNat : Nat) : Int) = j by omega] at e2
 obtain ⟨total, ht⟩ : ∃ z : Int, z = Ieee.signed s m (i - base).toNat + Ieee.signed t n (j - base).toNat := ⟨_, rfl⟩
 rw [← ht]
 have eq : sgn1 s * ((m : Nat) * p2 i) + sgn1 t * ((n : Nat) * p2 j) = (total : Rat) * p2 base := by
   rw [← e1, ← e2, ht, Rat.intCast_add]; grind
 rw [eq] at hq ⊢
 have ha := abs_total total (p2 base)
 have hp := p2_pos base
 obtain ⟨sg, hsg⟩ : ∃ b : Bool, b = (if total = 0 then s && t else decide (total < 0)) := ⟨_, rfl⟩
 rw [← hsg]
 obtain ⟨r, hr, hf, hl, hv⟩ := write_rv sg total.natAbs base (by rw [ha]; split; exact hq.2; exact hq.1)
 refine ⟨r, by rw [hr], hf, hl, ?_⟩
 have : sgn1 sg * (((total.natAbs : Nat) : Rat) * p2 base) = (total : Rat) * p2 base := by
   by_cases h0 : total = 0
   · subst h0
     rw [show ((Int.natAbs 0 : Nat) : Rat) = 0 from rfl, show ((0 : Int) : Rat) = 0 from rfl]; grind
   · rw [if_neg h0] at hsg
     rw [ha, hsg]
     unfold sgn1
     by_cases h : total < 0
     · rw [if_pos h, if_pos (by simpa using h)]; grind
     · rw [if_neg h, if_neg (by simpa using h)]; grind
 rwa [this] at hv
theorem fval_eq (b : Nat) : fval b = sgn1 (fneg b) * ((fmag (frung b) : Nat) * p2 (fpl (frung b))) := rfl
theorem add_bits {a b : Nat} (ha : Fin64 a) (hb : Fin64 b) (hq : Lim (fval a + fval b)) : ∃ r, floatBits .add .f64 a b = some r ∧ Fin64 r ∧ r < 18446744073709551616 ∧ RV (fval a + fval b) (fval r) := by
 show ∃ r, ((Ieee.double.read a).sum (Ieee.double.read b)).map Ieee.double.write = some r ∧ _
 rw [read_fin ha, read_fin hb]
 exact sum_datum _ _ _ _ _ _ hq
theorem sub_bits {a b : Nat} (ha : Fin64 a) (hb : Fin64 b) (hq : Lim (fval a - fval b)) : ∃ r, floatBits .sub .f64 a b = some r ∧ Fin64 r ∧ r < 18446744073709551616 ∧ RV (fval a - fval b) (fval r) := by
 show ∃ r, ((Ieee.double.read a).sum (Ieee.double.read b).opposite).map Ieee.double.write = some r ∧ _
 rw [read_fin ha, read_fin hb]
 have e : fval a - fval b = sgn1 (fneg a) * ((fmag (frung a) : Nat) * p2 (fpl (frung a))) + sgn1 (!fneg b) * ((fmag (frung b) : Nat) * p2 (fpl (frung b))) := by
   rw [fval_eq a, fval_eq b]
   generalize ((fmag (frung b) : Nat) : Rat) * p2 (fpl (frung b)) = z
   cases fneg b <;> simp [sgn1] <;> grind
 rw [e] at hq ⊢
 exact sum_datum _ _ _ _ _ _ hq
theorem mul_bits {a b : Nat} (ha : Fin64 a) (hb : Fin64 b) (hq : Lim (fval a * fval b)) : ∃ r, floatBits .mul .f64 a b = some r ∧ Fin64 r ∧ r < 18446744073709551616 ∧ RV (fval a * fval b) (fval r) := by
 show ∃ r, ((Ieee.double.read a).product (Ieee.double.read b)).map Ieee.double.write = some r ∧ _
 rw [read_fin ha, read_fin hb]
 unfold Ieee.Datum.product
 simp only [Option.map_some]
 have e : fval a * fval b = sgn1 (fneg a ^^ fneg b) * (((fmag (frung a) * fmag (frung b) : Nat) : Rat) * p2 (fpl (frung a) + fpl (frung b))) := by
   rw [fval_eq a, fval_eq b, p2_add, Rat.natCast_mul]
   generalize ((fmag (frung a) : Nat) : Rat) = m
   generalize ((fmag (frung b) : Nat) : Rat) = n
   generalize p2 (fpl (frung a)) = u
   generalize p2 (fpl (frung b)) = v
   cases fneg a <;> cases fneg b <;> simp [sgn1] <;> grind
 rw [e] at hq ⊢
 have hnn : (0 : Rat) ≤ ((fmag (frung a) * fmag (frung b) : Nat) : Rat) * p2 (fpl (frung a) + fpl (frung b)) := Rat.mul_nonneg Rat.natCast_nonneg (Rat.le_of_lt (p2_pos _))
 obtain ⟨r, hr, h⟩ := write_rv (fneg a ^^ fneg b) (fmag (frung a) * fmag (frung b)) (fpl (frung a) + fpl (frung b)) (by
   generalize ((fmag (frung a) * fmag (frung b) : Nat) : Rat) * p2 (fpl (frung a) + fpl (frung b)) = z at *
   cases hs : (fneg a ^^ fneg b)
   · rw [hs] at hq; have := hq.1; simp [sgn1] at this; grind
   · rw [hs] at hq; have := hq.2; simp [sgn1] at this; grind)
 exact ⟨r, by rw [hr], h⟩
end Go.Proofs.YtcgbnjoajieggaaGreat
