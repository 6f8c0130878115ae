/- Plain facts on words of 64 bits: the number that a list of words tells, its windows, and how they come of the words. -/
import Derived.Laws.BitsAllLaws
namespace Go.Proofs.Ytfocdhapjljooaa

def val : List Nat → Nat
  | [] => 0
  | n :: r => n + 18446744073709551616 * val r

def Small (ns : List Nat) : Prop := ∀ n, n ∈ ns → n < 18446744073709551616

theorem small_getD {ns : List Nat} (h : Small ns) (i : Nat) : ns.getD i 0 < 18446744073709551616 := by
  by_cases hi : i < ns.length
  · have : ns.getD i 0 = ns[i] := by simp [List.getD, hi]
    rw [this]; exact h _ (List.getElem_mem hi)
  · simp [List.getD, List.getElem?_eq_none (Nat.le_of_not_lt hi)]

theorem small_drop {ns : List Nat} (h : Small ns) (p : Nat) : Small (ns.drop p) := fun n hn => h n (List.mem_of_mem_drop hn)

theorem val_split (ns : List Nat) : val ns = ns.getD 0 0 + 18446744073709551616 * val (ns.drop 1) := by
  cases ns <;> simp [val]

theorem b64 (p : Nat) : 2 ^ (64 * p) = 18446744073709551616 ^ p := by rw [Nat.pow_mul]

theorem val_div {ns : List Nat} (h : Small ns) (p : Nat) : val ns / 2 ^ (64 * p) = val (ns.drop p) := by
  induction p generalizing ns with
  | zero => simp
  | succ p ih =>
    have h0 := small_getD h 0
    rw [show 64 * (p + 1) = 64 + 64 * p by omega, Nat.pow_add, ← Nat.div_div_eq_div_mul, val_split ns]
    rw [show (2 : Nat) ^ 64 = 18446744073709551616 from rfl, Nat.add_mul_div_left _ _ (by omega), Nat.div_eq_of_lt h0, Nat.zero_add, ih (small_drop h 1), List.drop_drop, Nat.add_comm]

theorem getD_drop (ns : List Nat) (p i : Nat) : (ns.drop p).getD i 0 = ns.getD (p + i) 0 := by simp [List.getD]

theorem val_two {ns : List Nat} (p : Nat) : ∃ y, val (ns.drop p) = ns.getD p 0 + 18446744073709551616 * (ns.getD (p + 1) 0 + 18446744073709551616 * y) := by
  refine ⟨val (ns.drop (p + 2)), ?_⟩
  rw [val_split (ns.drop p), val_split ((ns.drop p).drop 1), getD_drop, List.drop_drop, List.drop_drop, getD_drop]
  rfl

/-- The word whose lowest bit is the bit 'at' of 'val ns * 2 ^ low'. -/
def win (ns : List Nat) (low at' : Int) : Nat :=
  if at' < low then val ns * 2 ^ (low - at').toNat % 18446744073709551616 else val ns / 2 ^ (at' - low).toNat % 18446744073709551616

theorem win_lt (ns : List Nat) (low at' : Int) : win ns low at' < 18446744073709551616 := by
  unfold win; split <;> exact Nat.mod_lt _ (by omega)

theorem mul_pow_mod (x k : Nat) : x * 2 ^ min k 64 % 18446744073709551616 = x * 2 ^ k % 18446744073709551616 := by
  by_cases hk : k ≤ 64
  · rw [Nat.min_eq_left hk]
  · rw [Nat.min_eq_right (by omega)]
    rw [show k = 64 + (k - 64) by omega, Nat.pow_add, ← Nat.mul_assoc]
    rw [show (2 : Nat) ^ 64 = 18446744073709551616 from rfl]
    rw [Nat.mul_mod_left, Nat.mul_right_comm, Nat.mul_mod_left]

theorem win_low_eq (ns : List Nat) (k : Nat) : ns.getD 0 0 * 2 ^ min k 64 % 18446744073709551616 = val ns * 2 ^ k % 18446744073709551616 := by
  rw [mul_pow_mod, val_split ns, Nat.add_mul, Nat.mul_right_comm, Nat.mul_comm 18446744073709551616, Nat.mul_right_comm, Nat.add_mul_mod_self_right]

theorem or_eq (x0 x1 y r : Nat) (hx0 : x0 < 18446744073709551616) (hr : r < 64) :
    (x0 / 2 ^ r) ||| (x1 * 2 ^ (64 - r) % 18446744073709551616) = (x0 + 18446744073709551616 * (x1 + 18446744073709551616 * y)) / 2 ^ r % 18446744073709551616 := by
  have hc : 0 < 2 ^ r := Nat.two_pow_pos r
  have hB : 18446744073709551616 = 2 ^ r * 2 ^ (64 - r) := by rw [← Nat.pow_add, show r + (64 - r) = 64 by omega]
  have hlt : x0 / 2 ^ r < 2 ^ (64 - r) := by rw [Nat.div_lt_iff_lt_mul hc, Nat.mul_comm, ← hB]; exact hx0
  have e1 : x1 * 2 ^ (64 - r) % 18446744073709551616 = 2 ^ (64 - r) * (x1 % 2 ^ r) := by
    rw [Nat.mul_comm x1, hB, Nat.mul_comm (2 ^ r), Nat.mul_mod_mul_left]
  have e2 : (x0 + 18446744073709551616 * (x1 + 18446744073709551616 * y)) / 2 ^ r = x0 / 2 ^ r + 2 ^ (64 - r) * (x1 + 18446744073709551616 * y) := by
    have : x0 + 18446744073709551616 * (x1 + 18446744073709551616 * y) = x0 + 2 ^ r * (2 ^ (64 - r) * (x1 + 18446744073709551616 * y)) := by
      rw [← Nat.mul_assoc (2 ^ r), ← hB]
    rw [this, Nat.add_mul_div_left _ _ hc]
  rw [e1, e2, Nat.or_comm, ← Nat.two_pow_add_eq_or_of_lt hlt]
  have e3 : x0 / 2 ^ r + 2 ^ (64 - r) * (x1 + 18446744073709551616 * y) = x0 / 2 ^ r + 2 ^ (64 - r) * x1 + 18446744073709551616 * (2 ^ (64 - r) * y) := by
    rw [Nat.mul_add, Nat.add_assoc]; congr 2; rw [← Nat.mul_assoc, Nat.mul_comm (2 ^ (64 - r)), Nat.mul_assoc]
  rw [e3, Nat.add_mul_mod_self_left]
  have hx1 : x1 = 2 ^ r * (x1 / 2 ^ r) + x1 % 2 ^ r := (Nat.div_add_mod x1 (2 ^ r)).symm
  have e4 : x0 / 2 ^ r + 2 ^ (64 - r) * x1 = (2 ^ (64 - r) * (x1 % 2 ^ r) + x0 / 2 ^ r) + 18446744073709551616 * (x1 / 2 ^ r) := by
    conv => lhs; rw [hx1]
    rw [Nat.mul_add, ← Nat.mul_assoc, Nat.mul_comm (2 ^ (64 - r)) (2 ^ r), ← hB]; omega
  rw [e4, Nat.add_mul_mod_self_left]
  refine (Nat.mod_eq_of_lt ?_).symm
  have hm : x1 % 2 ^ r + 1 ≤ 2 ^ r := Nat.mod_lt _ hc
  calc 2 ^ (64 - r) * (x1 % 2 ^ r) + x0 / 2 ^ r < 2 ^ (64 - r) * (x1 % 2 ^ r) + 2 ^ (64 - r) := by omega
    _ = 2 ^ (64 - r) * (x1 % 2 ^ r + 1) := by rw [Nat.mul_add, Nat.mul_one]
    _ ≤ 2 ^ (64 - r) * 2 ^ r := Nat.mul_le_mul_left _ hm
    _ = 18446744073709551616 := by rw [Nat.mul_comm, ← hB]

theorem win_high_eq {ns : List Nat} (h : Small ns) (k : Nat) :
    (ns.getD (k / 64) 0 / 2 ^ (k % 64)) ||| (ns.getD (k / 64 + 1) 0 * 2 ^ (64 - k % 64) % 18446744073709551616) = val ns / 2 ^ k % 18446744073709551616 := by
  obtain ⟨y, hy⟩ := val_two (ns := ns) (k / 64)
  rw [or_eq _ _ y _ (small_getD h _) (Nat.mod_lt _ (by omega)), ← hy, ← val_div h, Nat.div_div_eq_div_mul, ← Nat.pow_add, Nat.div_add_mod]

/-- The last word is not nought (or there is none). -/
def Topped (ns : List Nat) : Prop := ns ≠ [] → ns.getD (ns.length - 1) 0 ≠ 0

theorem val_lt {ns : List Nat} (h : Small ns) : val ns < 2 ^ (64 * ns.length) := by
  induction ns with
  | nil => simp [val]
  | cons a r ih =>
    have h0 : a < 18446744073709551616 := h a (by simp)
    have h1 := ih (fun n hn => h n (by simp [hn]))
    rw [List.length_cons, show 64 * (r.length + 1) = 64 + 64 * r.length by omega, Nat.pow_add, val, show (2 : Nat) ^ 64 = 18446744073709551616 from rfl]
    omega

theorem val_append (a b : List Nat) : val (a ++ b) = val a + 2 ^ (64 * a.length) * val b := by
  induction a with
  | nil => simp [val]
  | cons x r ih =>
    rw [List.cons_append, val, val, ih, List.length_cons, show 64 * (r.length + 1) = 64 + 64 * r.length by omega, Nat.pow_add, show (2 : Nat) ^ 64 = 18446744073709551616 from rfl, Nat.mul_add, Nat.mul_assoc, Nat.add_assoc]

theorem val_last {ns : List Nat} (hne : ns ≠ []) : val ns = val ns.dropLast + 2 ^ (64 * (ns.length - 1)) * ns.getD (ns.length - 1) 0 := by
  have h := List.dropLast_concat_getLast hne
  have hl : ns.getD (ns.length - 1) 0 = ns.getLast hne := by
    have hp := List.length_pos_iff.2 hne
    rw [List.getLast_eq_getElem, List.getD, List.getElem?_eq_getElem (by omega)]; rfl
  have h2 : val ns = val (ns.dropLast ++ [ns.getLast hne]) := by rw [h]
  rw [h2, val_append, hl]
  simp [val]

theorem log2_val {ns : List Nat} (h : Small ns) (hne : ns ≠ []) (ht : ns.getD (ns.length - 1) 0 ≠ 0) : Nat.log2 (val ns) = 64 * (ns.length - 1) + Nat.log2 (ns.getD (ns.length - 1) 0) := by
  have h1 : val ns.dropLast < 2 ^ (64 * (ns.length - 1)) := by
    have := val_lt (ns := ns.dropLast) (fun n hn => h n (List.dropLast_subset _ hn))
    simpa using this
  rw [val_last hne]
  generalize ns.getD (ns.length - 1) 0 = t at *
  generalize val ns.dropLast = v at *
  generalize 64 * (ns.length - 1) = e at *
  have h2 := Nat.log2_self_le ht
  have h3 : t < 2 ^ (Nat.log2 t + 1) := Nat.lt_log2_self
  have hp : 0 < 2 ^ e := Nat.two_pow_pos e
  have h5 : v + 2 ^ e * t ≠ 0 := by
    have := Nat.mul_pos hp (Nat.pos_of_ne_zero ht); omega
  rw [Nat.log2_eq_iff h5]
  refine ⟨?_, ?_⟩
  · rw [Nat.pow_add]
    exact Nat.le_trans (Nat.mul_le_mul_left _ h2) (Nat.le_add_left _ _)
  · have h6 : t + 1 ≤ 2 ^ (Nat.log2 t + 1) := h3
    have h7 := Nat.mul_le_mul_left (2 ^ e) h6
    rw [show e + Nat.log2 t + 1 = e + (Nat.log2 t + 1) by omega, Nat.pow_add]
    rw [Nat.mul_add, Nat.mul_one] at h7
    omega

theorem val_pos {ns : List Nat} (hne : ns ≠ []) (ht : ns.getD (ns.length - 1) 0 ≠ 0) : val ns ≠ 0 := by
  rw [val_last hne]
  have := Nat.mul_pos (Nat.two_pow_pos (64 * (ns.length - 1))) (Nat.pos_of_ne_zero ht)
  omega

/-- The highest bit (0 of nothing). -/
def hiB (ns : List Nat) (low : Int) : Int := if ns = [] then 0 else low + (Nat.log2 (val ns) : Nat)

theorem castMul (a b : Nat) : (a : Int) * 2 ^ b % 18446744073709551616 = ((a * 2 ^ b % 18446744073709551616 : Nat) : Int) := by
  rw [Int.natCast_emod, Int.natCast_mul, Int.natCast_pow]; rfl

theorem castDiv (a b : Nat) : (a : Int) / 2 ^ b = ((a / 2 ^ b : Nat) : Int) := by
  rw [Int.natCast_ediv, Int.natCast_pow]; rfl

end Go.Proofs.Ytfocdhapjljooaa
