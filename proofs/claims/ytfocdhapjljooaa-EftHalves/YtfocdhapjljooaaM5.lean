/- Plain facts: numbers as rationals; which may be. -/
import Derived.Test.YtfocdhapjljooaaM3
namespace Go.Proofs.Ytfocdhapjljooaa

/-- A power of two. -/
def p2 (e : Int) : Rat := 2 ^ e

theorem p2_pos (e : Int) : 0 < p2 e := Rat.zpow_pos (by decide)
theorem p2_ne (e : Int) : p2 e ≠ 0 := Rat.ne_of_gt (p2_pos e)
theorem p2_add (a b : Int) : p2 (a + b) = p2 a * p2 b := Rat.zpow_add (by decide) a b
theorem p2_zero : p2 0 = 1 := Rat.zpow_zero 2
theorem p2_one : p2 1 = 2 := Rat.zpow_one 2
theorem p2_nat (n : Nat) : p2 (n : Int) = ((2 ^ n : Nat) : Rat) := by
  unfold p2; rw [Rat.zpow_natCast, Rat.natCast_pow]; rfl
theorem p2_neg (e : Int) : p2 (-e) * p2 e = 1 := by rw [← p2_add, Int.add_left_neg, p2_zero]

theorem p2_le_nat (n : Nat) : 1 ≤ p2 (n : Int) := by
  rw [p2_nat]
  have h : 1 ≤ 2 ^ n := Nat.two_pow_pos n
  have := (Rat.natCast_le_natCast (a := 1) (b := 2 ^ n)).2 h
  simpa using this

theorem p2_mono {a b : Int} (h : a ≤ b) : p2 a ≤ p2 b := by
  obtain ⟨n, rfl⟩ : ∃ n : Nat, b = a + (n : Int) := ⟨(b - a).toNat, by omega⟩
  rw [p2_add]
  have h1 := Rat.mul_le_mul_of_nonneg_left (p2_le_nat n) (Rat.le_of_lt (p2_pos a))
  grind

theorem p2_lt {a b : Int} (h : a < b) : p2 a < p2 b := by
  have h1 : p2 (a + 1) ≤ p2 b := p2_mono (by omega)
  have h2 := p2_pos a
  rw [p2_add, p2_one] at h1
  grind

theorem p2_le_iff {a b : Int} : p2 a ≤ p2 b ↔ a ≤ b := by
  refine ⟨fun h => ?_, p2_mono⟩
  rcases Int.lt_or_le b a with h1 | h1
  · have := p2_lt h1; grind
  · exact h1

theorem p2_lt_iff {a b : Int} : p2 a < p2 b ↔ a < b := by
  refine ⟨fun h => ?_, p2_lt⟩
  rcases Int.lt_or_le a b with h1 | h1
  · exact h1
  · have := p2_mono h1; grind

/-- What a magnitude tells. -/
def magR (ns : List Nat) (low : Int) : Rat := (val ns : Nat) * p2 low

theorem magR_nonneg (ns : List Nat) (low : Int) : 0 ≤ magR ns low := Rat.mul_nonneg Rat.natCast_nonneg (Rat.le_of_lt (p2_pos low))

theorem nat_mul_p2 (V k : Nat) : ((V * 2 ^ k : Nat) : Rat) = (V : Nat) * p2 (k : Nat) := by rw [p2_nat, Rat.natCast_mul]

theorem tells_magR {V : Nat} {low : Int} {ns' : List Nat} {low' : Int} (h : Tells V low ns' low') : magR ns' low' = (V : Nat) * p2 low := by
  rcases h with ⟨rfl, rfl, rfl⟩ | ⟨_, k, rfl, rfl⟩
  · simp [magR, val]
  · rw [magR, nat_mul_p2, p2_add]; grind

theorem magR_at (ns : List Nat) (low L : Int) (k : Nat) (h : low = L + (k : Nat)) : magR ns low = ((val ns * 2 ^ k : Nat) : Rat) * p2 L := by
  rw [magR, h, nat_mul_p2, p2_add]; grind

/-- A number that may be: its highest bit is at most 65536, its lowest at least -65536. -/
def May (q : Rat) : Prop := q < p2 65537 ∧ -p2 65537 < q ∧ ∃ n : Int, q = (n : Rat) * p2 (-65536)

theorem may_neg {q : Rat} (h : May q) : May (-q) := by
  obtain ⟨h1, h2, n, h3⟩ := h
  refine ⟨by grind, by grind, -n, ?_⟩
  rw [h3, Rat.intCast_neg]; grind

theorem own_lo {ns : List Nat} {low : Int} (h : OwnF ns low) (hne : ns ≠ []) : p2 (hiB ns low) ≤ magR ns low ∧ magR ns low < p2 (hiB ns low + 1) := by
  have hv := own_val h hne
  unfold hiB magR
  rw [if_neg hne]
  have h1 := Nat.log2_self_le hv
  have h2 : val ns < 2 ^ (Nat.log2 (val ns) + 1) := Nat.lt_log2_self
  have h1' := (Rat.natCast_le_natCast).2 h1
  have h2' := (Rat.natCast_lt_natCast).2 h2
  have hp := p2_pos low
  rw [show low + (Nat.log2 (val ns) : Int) = (Nat.log2 (val ns) : Int) + low by omega, p2_add, show (Nat.log2 (val ns) : Int) + low + 1 = ((Nat.log2 (val ns) + 1 : Nat) : Int) + low by omega, p2_add, p2_nat, p2_nat]
  exact ⟨Rat.mul_le_mul_of_nonneg_right h1' (Rat.le_of_lt hp), Rat.mul_lt_mul_of_pos_right h2' hp⟩

theorem may_iff {ns : List Nat} {low : Int} (h : OwnF ns low) : (hiB ns low ≤ 65536 ∧ -65536 ≤ low) ↔ May (magR ns low) := by
  by_cases hne : ns = []
  · have hl : low = 0 := by
      rcases h with ⟨_, h⟩ | ⟨h, _⟩
      · exact h
      · exact absurd hne h
    subst hl
    subst hne
    refine ⟨fun _ => ?_, fun _ => by simp [hiB]⟩
    have := p2_pos 65537
    refine ⟨by simp [magR, val]; exact this, by simp [magR, val]; grind, 0, by simp [magR, val]⟩
  · obtain ⟨h1, h2⟩ := own_lo h hne
    have hn := magR_nonneg ns low
    have hp := p2_pos 65537
    constructor
    · rintro ⟨ha, hb⟩
      refine ⟨?_, by grind, ?_⟩
      · have : p2 (hiB ns low + 1) ≤ p2 65537 := p2_mono (by omega)
        grind
      · obtain ⟨k, hk⟩ : ∃ k : Nat, low = -65536 + (k : Int) := ⟨(low + 65536).toNat, by omega⟩
        refine ⟨((val ns * 2 ^ k : Nat) : Int), ?_⟩
        rw [magR_at ns low (-65536) k hk]; rfl
    · rintro ⟨ha, _, n, hq⟩
      constructor
      · have : p2 (hiB ns low) < p2 65537 := by grind
        have := p2_lt_iff.1 this
        omega
      · rcases Int.lt_or_le low (-65536) with hlt | hge
        · exfalso
          obtain ⟨k, hk⟩ : ∃ k : Nat, (-65536 : Int) = low + ((k + 1 : Nat) : Int) := ⟨(-65536 - low - 1).toNat, by omega⟩
          have hodd : val ns % 2 = 1 := by
            rcases h with ⟨h, _⟩ | ⟨_, h, _⟩
            · exact absurd h hne
            · exact h
          have e1 : ((val ns : Nat) : Rat) * p2 low = (n : Rat) * p2 ((k + 1 : Nat) : Int) * p2 low := by
            have := hq
            rw [hk, p2_add, magR] at this
            grind
          have e2 : ((val ns : Nat) : Rat) = (n : Rat) * p2 ((k + 1 : Nat) : Int) := by
            have := p2_ne low
            grind
          rw [p2_nat] at e2
          have e3 : ((val ns : Nat) : Int) = n * ((2 ^ (k + 1) : Nat) : Int) := by
            have e4 : (((val ns : Nat) : Int) : Rat) = ((n * ((2 ^ (k + 1) : Nat) : Int) : Int) : Rat) := by
              rw [Rat.intCast_mul]; exact e2
            exact Rat.intCast_inj.1 e4
          have e5 : n * ((2 ^ (k + 1) : Nat) : Int) = 2 * (n * ((2 ^ k : Nat) : Int)) := by rw [Nat.pow_succ]; grind
          omega
        · exact hge

end Go.Proofs.Ytfocdhapjljooaa
