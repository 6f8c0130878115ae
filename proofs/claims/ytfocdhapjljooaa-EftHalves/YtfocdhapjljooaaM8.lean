/- Plain facts: how far a number's bits reach. -/
import Derived.Test.YtfocdhapjljooaaM7
namespace Go.Proofs.Ytfocdhapjljooaa

/-- In magnitude below 2^h, and a multiple of 2^l. -/
def Bd (h l : Int) (q : Rat) : Prop := q < p2 h ∧ -p2 h < q ∧ ∃ n : Int, q = (n : Rat) * p2 l

theorem bd_le {x P Q : Rat} (a : x < P) (b : -P < x) (h : P ≤ Q) : x < Q ∧ -Q < x := ⟨by grind, by grind⟩

theorem bd_nn {x y P : Rat} (h0 : 0 ≤ x) (h1 : x < y) (h2 : y ≤ P) : x < P ∧ -P < x := ⟨by grind, by grind⟩

theorem Bd.may {h l : Int} {q : Rat} (hb : Bd h l q) (h1 : h ≤ 65537) (h2 : -65536 ≤ l) : May q := by
  obtain ⟨a, b, n, c⟩ := hb
  have hh := bd_le a b (p2_mono h1)
  refine ⟨hh.1, hh.2, n * ((2 ^ (l + 65536).toNat : Nat) : Int), ?_⟩
  have e : p2 l = ((2 ^ (l + 65536).toNat : Nat) : Rat) * p2 (-65536) := by
    rw [← p2_nat, ← p2_add]; congr 1; omega
  rw [c, e, Rat.intCast_mul]
  have : (((2 ^ (l + 65536).toNat : Nat) : Int) : Rat) = ((2 ^ (l + 65536).toNat : Nat) : Rat) := rfl
  rw [this]; grind

theorem Bd.mono {h l h' l' : Int} {q : Rat} (hb : Bd h l q) (h1 : h ≤ h') (h2 : l' ≤ l) : Bd h' l' q := by
  obtain ⟨a, b, n, c⟩ := hb
  have := p2_mono h1
  refine ⟨by grind, by grind, n * ((2 ^ (l - l').toNat : Nat) : Int), ?_⟩
  have e : p2 l = ((2 ^ (l - l').toNat : Nat) : Rat) * p2 l' := by
    rw [← p2_nat, ← p2_add]; congr 1; omega
  rw [c, e, Rat.intCast_mul]
  have : (((2 ^ (l - l').toNat : Nat) : Int) : Rat) = ((2 ^ (l - l').toNat : Nat) : Rat) := rfl
  rw [this]; grind

theorem Bd.neg {h l : Int} {q : Rat} (hb : Bd h l q) : Bd h l (-q) := by
  obtain ⟨a, b, n, c⟩ := hb
  refine ⟨by grind, by grind, -n, ?_⟩
  rw [c, Rat.intCast_neg]; grind

theorem Bd.add {h l : Int} {p q : Rat} (h1 : Bd h l p) (h2 : Bd h l q) : Bd (h + 1) l (p + q) := by
  obtain ⟨a, b, n, c⟩ := h1
  obtain ⟨a', b', n', c'⟩ := h2
  have e : p2 (h + 1) = 2 * p2 h := by rw [p2_add, p2_one]; grind
  refine ⟨by grind, by grind, n + n', ?_⟩
  rw [c, c', Rat.intCast_add]; grind

theorem Bd.sub {h l : Int} {p q : Rat} (h1 : Bd h l p) (h2 : Bd h l q) : Bd (h + 1) l (p - q) := by
  have := h1.add h2.neg
  rwa [show p + -q = p - q by grind] at this

theorem abs_mul_lt {a b c d : Rat} (h1 : -b < a) (h2 : a < b) (h3 : -d < c) (h4 : c < d) : -(b * d) < a * c ∧ a * c < b * d := by
  have hb : 0 < b := by grind
  have hd : 0 < d := by grind
  have e1 : 0 < (b - a) * (d + c) := Rat.mul_pos (by grind) (by grind)
  have e2 : 0 < (b + a) * (d - c) := Rat.mul_pos (by grind) (by grind)
  have e3 : 0 < (b - a) * (d - c) := Rat.mul_pos (by grind) (by grind)
  have e4 : 0 < (b + a) * (d + c) := Rat.mul_pos (by grind) (by grind)
  constructor <;> grind

theorem Bd.mul {h l h' l' : Int} {p q : Rat} (h1 : Bd h l p) (h2 : Bd h' l' q) : Bd (h + h') (l + l') (p * q) := by
  obtain ⟨a, b, n, c⟩ := h1
  obtain ⟨a', b', n', c'⟩ := h2
  have := abs_mul_lt b a b' a'
  rw [Bd, p2_add, p2_add]
  refine ⟨this.2, this.1, n * n', ?_⟩
  rw [c, c', Rat.intCast_mul]; grind

theorem Bd.shift {h l : Int} {p : Rat} (h1 : Bd h l p) (k : Int) : Bd (h + k) (l + k) (p * p2 k) := by
  obtain ⟨a, b, n, c⟩ := h1
  have hp := p2_pos k
  have e1 := Rat.mul_lt_mul_of_pos_right a hp
  have e2 := Rat.mul_lt_mul_of_pos_right b hp
  rw [Bd, p2_add, p2_add]
  refine ⟨e1, by grind, n, ?_⟩
  rw [c]; grind

theorem neg_lt_zero {P : Rat} (h : 0 < P) : -P < 0 := by grind

theorem bd_zero (h l : Int) : Bd h l 0 := ⟨p2_pos h, neg_lt_zero (p2_pos h), 0, by simp⟩

theorem fval_bd {b : Nat} (h : Fin64 b) : Bd 1024 (-1074) (fval b) := by
  have hr : frung b < 9218868437227405312 := h
  have h1 : fmag (frung b) < 2 ^ 53 := fmag_lt _
  have h2 : fpl (frung b) ≤ 971 := by unfold fpl; split <;> omega
  have h3 : -1074 ≤ fpl (frung b) := by unfold fpl; split <;> omega
  have hp := p2_pos (fpl (frung b))
  have h4 : ((fmag (frung b) : Nat) : Rat) < ((2 ^ 53 : Nat) : Rat) := Rat.natCast_lt_natCast.2 h1
  rw [← p2_nat] at h4
  have h5 := Rat.mul_lt_mul_of_pos_right h4 hp
  rw [← p2_add] at h5
  have h6 : p2 (((53 : Nat) : Int) + fpl (frung b)) ≤ p2 1024 := p2_mono (by omega)
  have h7 : (0 : Rat) ≤ (fmag (frung b) : Nat) * p2 (fpl (frung b)) := Rat.mul_nonneg Rat.natCast_nonneg (Rat.le_of_lt hp)
  have base : Bd 1024 (-1074) ((fmag (frung b) : Nat) * p2 (fpl (frung b))) := by
    have hh := bd_nn h7 h5 h6
    refine ⟨hh.1, hh.2, ((fmag (frung b) * 2 ^ (fpl (frung b) + 1074).toNat : Nat) : Int), ?_⟩
    have e : (((fmag (frung b) * 2 ^ (fpl (frung b) + 1074).toNat : Nat) : Int) : Rat) = ((fmag (frung b) * 2 ^ (fpl (frung b) + 1074).toNat : Nat) : Rat) := rfl
    rw [e, nat_mul_p2, Rat.mul_assoc, ← p2_add, show (((fpl (frung b) + 1074).toNat : Nat) : Int) + -1074 = fpl (frung b) by omega]
  unfold fval sgn1
  split
  · have := base.neg
    rwa [show -1 * ((fmag (frung b) : Nat) * p2 (fpl (frung b)) : Rat) = -((fmag (frung b) : Nat) * p2 (fpl (frung b))) by grind]
  · rwa [Rat.one_mul]

theorem int_bd (n : Int) (h1 : -9223372036854775808 ≤ n) (h2 : n ≤ 9223372036854775807) : Bd 64 0 (n : Rat) := by
  have e : p2 64 = ((18446744073709551616 : Int) : Rat) := by
    rw [show (64 : Int) = ((64 : Nat) : Int) from rfl, p2_nat]; rfl
  refine ⟨?_, ?_, n, by rw [p2_zero, Rat.mul_one]⟩
  · rw [e]; exact Rat.intCast_lt_intCast.2 (by omega)
  · rw [e, ← Rat.intCast_neg]; exact Rat.intCast_lt_intCast.2 (by omega)

end Go.Proofs.Ytfocdhapjljooaa
