/- Plain facts: two magnitudes brought to one lowest bit. -/
import Derived.Test.YtfocdhapjljooaaM2
namespace Go.Proofs.Ytfocdhapjljooaa

theorem own_topped {ns : List Nat} {low : Int} (h : OwnF ns low) : Topped ns := by
  rcases h with ⟨rfl, _⟩ | ⟨_, _, h⟩
  · intro h; exact absurd rfl h
  · exact h

theorem own_val {ns : List Nat} {low : Int} (h : OwnF ns low) (hne : ns ≠ []) : val ns ≠ 0 := by
  rcases h with ⟨rfl, _⟩ | ⟨_, h, _⟩
  · exact absurd rfl hne
  · omega

theorem own_low_hi {ns : List Nat} {low : Int} (h : OwnF ns low) : low ≤ hiB ns low := by
  unfold hiB
  rcases h with ⟨rfl, rfl⟩ | ⟨hne, _, _⟩
  · simp
  · rw [if_neg hne]; omega

/-- A magnitude lies below the bit above its highest one. -/
theorem val_hi {ns : List Nat} {low L : Int} (h : OwnF ns low) (k : Nat) (hk : low = L + (k : Nat)) (e : Nat) (he : hiB ns low - L + 1 ≤ (e : Nat)) : val ns * 2 ^ k < 2 ^ e := by
  rcases h with ⟨rfl, _⟩ | ⟨hne, _, _⟩
  · simp only [val, Nat.zero_mul]; exact Nat.two_pow_pos e
  · unfold hiB at he
    rw [if_neg hne] at he
    have h1 : val ns < 2 ^ (Nat.log2 (val ns) + 1) := Nat.lt_log2_self
    have h2 : val ns * 2 ^ k < 2 ^ (Nat.log2 (val ns) + 1) * 2 ^ k := Nat.mul_lt_mul_of_pos_right h1 (Nat.two_pow_pos k)
    rw [← Nat.pow_add] at h2
    exact Nat.lt_of_lt_of_le h2 (Nat.pow_le_pow_right (by omega) (by omega))

theorem val_digs_of {X n : Nat} (h : X < 2 ^ (64 * n)) : val (digs X n) = X := by rw [val_digs, Nat.mod_eq_of_lt h]

end Go.Proofs.Ytfocdhapjljooaa
