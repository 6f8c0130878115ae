/- Own texts, put together: M4. -/
import Derived.Test.YtlpnobcapdbfkaaDoorQ1
/- Plain facts: two numbers held against each other by windows. -/
namespace Go.Proofs.YtlpnobcapdbfkaaDoor
theorem win_at (ns : List Nat) (L : Int) (k e : Nat) : win ns (L + (k : Nat)) (L + (e : Nat) - 64) = val ns * 2 ^ k * 18446744073709551616 / 2 ^ e % 18446744073709551616 := by
 unfold win
 have hB : (18446744073709551616 : Nat) = 2 ^ 64 := rfl
 by_cases h : e < k + 64
 · rw [if_pos (by omega), show (L + (k : Nat) - (L + (e : Nat) - 64) : Int).toNat = k + 64 - e by omega]
   congr 1
   have e1 : val ns * 2 ^ k * 18446744073709551616 = val ns * 2 ^ (k + 64 - e) * 2 ^ e := by
     rw [Nat.mul_assoc, Nat.mul_assoc, hB, ← Nat.pow_add, ← Nat.pow_add]; congr 2; omega
   rw [e1, Nat.mul_div_cancel _ (Nat.two_pow_pos _)]
 · rw [if_neg (by omega), show (L + (e : Nat) - 64 - (L + (k : Nat)) : Int).toNat = e - (k + 64) by omega]
   congr 1
   have e1 : val ns * 2 ^ k * 18446744073709551616 = val ns * 2 ^ (k + 64) := by rw [Nat.mul_assoc, hB, ← Nat.pow_add]
   rw [e1, show 2 ^ e = 2 ^ (k + 64) * 2 ^ (e - (k + 64)) by rw [← Nat.pow_add]; congr 1; omega, ← Nat.div_div_eq_div_mul, Nat.mul_div_cancel _ (Nat.two_pow_pos _)]
theorem div_step (X e : Nat) : X / 2 ^ e = 18446744073709551616 * (X / 2 ^ (e + 64)) + X / 2 ^ e % 18446744073709551616 := by
 rw [Nat.pow_add, ← Nat.div_div_eq_div_mul, show (2 : Nat) ^ 64 = 18446744073709551616 from rfl]
 omega
theorem lt_of_div {a b p : Nat} (h : a / p < b / p) : a < b := by
 rcases Nat.lt_or_ge a b with h1 | h1
 · exact h1
 · have := Nat.div_le_div_right (c := p) h1; omega
theorem win_lt_tells {A C e : Nat} (h : A / 2 ^ (e + 64) = C / 2 ^ (e + 64)) (hw : A / 2 ^ e % 18446744073709551616 < C / 2 ^ e % 18446744073709551616) : A < C := by
 refine lt_of_div (p := 2 ^ e) ?_
 rw [div_step A, div_step C, h]; omega
theorem win_eq_tells {A C e : Nat} (h : A / 2 ^ (e + 64) = C / 2 ^ (e + 64)) (hw : A / 2 ^ e % 18446744073709551616 = C / 2 ^ e % 18446744073709551616) : A / 2 ^ e = C / 2 ^ e := by
 rw [div_step A, div_step C, h, hw]
theorem hi_lt {ns1 ns2 : List Nat} {low1 low2 L : Int} {k1 k2 : Nat} (hk1 : low1 = L + (k1 : Nat)) (hk2 : low2 = L + (k2 : Nat)) (n1 : ns1 ≠ []) (n2 : ns2 ≠ []) (h2 : val ns2 ≠ 0) (h : hiB ns1 low1 < hiB ns2 low2) : val ns1 * 2 ^ k1 < val ns2 * 2 ^ k2 := by
 unfold hiB at h
 rw [if_neg n1, if_neg n2] at h
 have a1 : val ns1 < 2 ^ (Nat.log2 (val ns1) + 1) := Nat.lt_log2_self
 have a2 := Nat.log2_self_le h2
 have b1 : val ns1 * 2 ^ k1 < 2 ^ (Nat.log2 (val ns1) + 1) * 2 ^ k1 := Nat.mul_lt_mul_of_pos_right a1 (Nat.two_pow_pos _)
 have b2 : 2 ^ (Nat.log2 (val ns2)) * 2 ^ k2 ≤ val ns2 * 2 ^ k2 := Nat.mul_le_mul_right _ a2
 rw [← Nat.pow_add] at b1 b2
 exact Nat.lt_of_lt_of_le b1 (Nat.le_trans (Nat.pow_le_pow_right (by omega) (by omega)) b2)
theorem hi_div {ns : List Nat} {low L : Int} {k : Nat} (hk : low = L + (k : Nat)) (n1 : ns ≠ []) (e : Nat) (he : hiB ns low + 1 = L + (e : Nat)) : val ns * 2 ^ k * 18446744073709551616 / 2 ^ (e + 64) = 0 := by
 unfold hiB at he
 rw [if_neg n1] at he
 rw [Nat.div_eq_zero_iff]
 right
 have a1 : val ns < 2 ^ (Nat.log2 (val ns) + 1) := Nat.lt_log2_self
 have b1 : val ns * 2 ^ k < 2 ^ (Nat.log2 (val ns) + 1) * 2 ^ k := Nat.mul_lt_mul_of_pos_right a1 (Nat.two_pow_pos _)
 rw [← Nat.pow_add] at b1
 rw [Nat.pow_add, show (2 : Nat) ^ 64 = 18446744073709551616 from rfl]
 refine Nat.mul_lt_mul_of_pos_right ?_ (by omega)
 rw [show e = Nat.log2 (val ns) + 1 + k by omega]; exact b1
def Alike (A C : Nat) (e : Int) : Prop := if 0 < e then A * 18446744073709551616 / 2 ^ (e.toNat + 64) = C * 18446744073709551616 / 2 ^ (e.toNat + 64) else A = C
theorem alike_step {A C : Nat} {e : Nat} (he : 0 < e) (h : Alike A C (e : Nat)) (hw : A * 18446744073709551616 / 2 ^ e % 18446744073709551616 = C * 18446744073709551616 / 2 ^ e % 18446744073709551616) : Alike A C ((e : Int) - 64) := by
 unfold Alike at *
 rw [if_pos (by omega), Int.toNat_natCast] at h
 have h2 := win_eq_tells h hw
 by_cases h64 : 64 < e
 · rw [if_pos (by omega), show ((e : Int) - 64).toNat + 64 = e by omega]; exact h2
 · rw [if_neg (by omega)]
   have e1 : ∀ X : Nat, X * 18446744073709551616 / 2 ^ e = X * 2 ^ (64 - e) := by
     intro X
     rw [show (18446744073709551616 : Nat) = 2 ^ (64 - e) * 2 ^ e by rw [← Nat.pow_add, show 64 - e + e = 64 by omega], ← Nat.mul_assoc, Nat.mul_div_cancel _ (Nat.two_pow_pos _)]
   rw [e1, e1] at h2
   exact Nat.eq_of_mul_eq_mul_right (Nat.two_pow_pos _) h2
theorem alike_lt {A C : Nat} {e : Nat} (he : 0 < e) (h : Alike A C (e : Nat)) (hw : A * 18446744073709551616 / 2 ^ e % 18446744073709551616 < C * 18446744073709551616 / 2 ^ e % 18446744073709551616) : A < C := by
 unfold Alike at h
 rw [if_pos (by omega), Int.toNat_natCast] at h
 have := win_lt_tells h hw
 omega
theorem alike_symm {A C : Nat} {e : Int} (h : Alike A C e) : Alike C A e := by
 unfold Alike at *
 split
 · rename_i hp; rw [if_pos hp] at h; exact h.symm
 · rename_i hp; rw [if_neg hp] at h; exact h.symm
end Go.Proofs.YtlpnobcapdbfkaaDoor
