/- Plain facts: the words of a number, cut out at a bit; a magnitude in its own form. -/
import Derived.Test.YtfocdhapjljooaaM
namespace Go.Proofs.Ytfocdhapjljooaa

/-- n words of X, the lowest first. -/
def digs (X n : Nat) : List Nat := (List.range n).map fun i => X / 2 ^ (64 * i) % 18446744073709551616

theorem digs_length (X n : Nat) : (digs X n).length = n := by simp [digs]

theorem digs_small (X n : Nat) : Small (digs X n) := by
  intro m hm
  simp only [digs, List.mem_map] at hm
  obtain ⟨i, _, rfl⟩ := hm
  exact Nat.mod_lt _ (by omega)

theorem digs_getD (X n i : Nat) (h : i < n) : (digs X n).getD i 0 = X / 2 ^ (64 * i) % 18446744073709551616 := by
  simp [digs, List.getD, h]

theorem val_digs (X n : Nat) : val (digs X n) = X % 2 ^ (64 * n) := by
  induction n with
  | zero => simp [digs, val, Nat.mod_one]
  | succ n ih =>
    have e : digs X (n + 1) = digs X n ++ [X / 2 ^ (64 * n) % 18446744073709551616] := by simp [digs, List.range_succ]
    rw [e, val_append, ih, digs_length, show 64 * (n + 1) = 64 * n + 64 by omega, Nat.pow_add, Nat.mod_mul]
    simp [val]

theorem digs_topped (X n : Nat) (h0 : 2 ^ (64 * n) ≤ X) (h1 : X < 2 ^ (64 * (n + 1))) : Topped (digs X (n + 1)) := by
  intro _
  rw [digs_length, Nat.add_sub_cancel, digs_getD _ _ _ (by omega)]
  have hp : 0 < 2 ^ (64 * n) := Nat.two_pow_pos _
  have h2 : X / 2 ^ (64 * n) < 18446744073709551616 := by
    rw [Nat.div_lt_iff_lt_mul hp, show (18446744073709551616 : Nat) = 2 ^ 64 from rfl, ← Nat.pow_add, show 64 + 64 * n = 64 * (n + 1) by omega]
    exact h1
  rw [Nat.mod_eq_of_lt h2]
  have := Nat.div_le_div_right (c := 2 ^ (64 * n)) h0
  rw [Nat.div_self hp] at this
  omega

/-- A magnitude in its own form. -/
def OwnF (ns : List Nat) (low : Int) : Prop := (ns = [] ∧ low = 0) ∨ (ns ≠ [] ∧ val ns % 2 = 1 ∧ Topped ns)

/-- The words ns', from the bit low' on, tell the number that V does from the bit low on. -/
def Tells (V : Nat) (low : Int) (ns' : List Nat) (low' : Int) : Prop := (V = 0 ∧ ns' = [] ∧ low' = 0) ∨ (V ≠ 0 ∧ ∃ k : Nat, low' = low + (k : Nat) ∧ V = val ns' * 2 ^ k)

theorem val_zero {ns : List Nat} (h : ∀ j, ns.getD j 0 = 0) : val ns = 0 := by
  induction ns with
  | nil => rfl
  | cons a r ih =>
    have h0 : a = 0 := by simpa using h 0
    have h1 := ih (fun j => by have := h (j + 1); simpa using this)
    rw [val, h0, h1]

theorem val_take {ns : List Nat} (e : Nat) (h : ∀ j, e ≤ j → ns.getD j 0 = 0) : val (ns.take e) = val ns := by
  conv => rhs; rw [← List.take_append_drop e ns]
  rw [val_append, val_zero (ns := ns.drop e), Nat.mul_zero, Nat.add_zero]
  intro j
  rw [getD_drop]; exact h _ (by omega)

theorem take_getD {ns : List Nat} (e j : Nat) (h : j < e) : (ns.take e).getD j 0 = ns.getD j 0 := by
  simp [List.getD, h]

theorem val_low {ns : List Nat} (hs : Small ns) (f : Nat) (h : ∀ j, j < f → ns.getD j 0 = 0) : val ns = 2 ^ (64 * f) * val (ns.drop f) := by
  have h1 : val (ns.take f) = 0 := by
    refine val_zero fun j => ?_
    by_cases hj : j < f
    · rw [take_getD f j hj]; exact h j hj
    · simp [List.getD, List.getElem?_eq_none (show (ns.take f).length ≤ j by simp; omega)]
  by_cases hf : f ≤ ns.length
  · conv => lhs; rw [← List.take_append_drop f ns]
    rw [val_append, h1, Nat.zero_add, List.length_take, Nat.min_eq_left hf]
  · have h2 : val ns = 0 := by rw [List.take_of_length_le (by omega)] at h1; exact h1
    rw [h2, ← val_div hs, h2]; simp

/-- What ownForm makes: all of it. -/
theorem own_math {ns : List Nat} (hs : Small ns) (low : Int) (f e t m : Nat) (hfe : f < e) (hel : e ≤ ns.length) (hhi : ∀ j, e ≤ j → ns.getD j 0 = 0) (htop : ns.getD (e - 1) 0 ≠ 0) (hlo : ∀ j, j < f → ns.getD j 0 = 0) (hf : ns.getD f 0 = 2 ^ t * (2 * m + 1)) (ht : t < 64) :
    64 * f + t ≤ Nat.log2 (val ns) ∧ Nat.log2 (val ns) < 64 * e ∧ Topped (ns.take e) ∧ val (ns.take e) = val ns ∧
    (∀ n r, r < 64 → Nat.log2 (val ns) - (64 * f + t) = 64 * n + r →
      OwnF (digs (val ns / 2 ^ (64 * f + t)) (n + 1)) (low + (64 * f + t : Nat)) ∧ Tells (val ns) low (digs (val ns / 2 ^ (64 * f + t)) (n + 1)) (low + (64 * f + t : Nat)) ∧ n + 1 ≤ e) := by
  have hv1 := val_take e hhi
  have hlen : (ns.take e).length = e := by simp; omega
  have hne : ns.take e ≠ [] := by intro h; rw [h] at hlen; simp at hlen; omega
  have htp : (ns.take e).getD (e - 1) 0 ≠ 0 := by rw [take_getD _ _ (by omega)]; exact htop
  have hst : Small (ns.take e) := fun n hn => hs n (List.mem_of_mem_take hn)
  have hlog := log2_val hst hne (by rw [hlen]; exact htp)
  rw [hlen, hv1] at hlog
  have hlt : Nat.log2 ((ns.take e).getD (e - 1) 0) < 64 := (Nat.log2_lt htp).2 (small_getD hst _)
  have hv0 : val ns ≠ 0 := by rw [← hv1]; exact val_pos hne (by rw [hlen]; exact htp)
  -- the odd part
  have hv2 := val_low hs f hlo
  obtain ⟨y, hy⟩ : ∃ y, val (ns.drop f) = 2 ^ t * (2 * y + 1) := by
    rw [val_split (ns.drop f), getD_drop, Nat.add_zero, hf]
    refine ⟨m + 2 ^ (63 - t) * val ((ns.drop f).drop 1), ?_⟩
    have e1 : 18446744073709551616 = 2 ^ t * (2 * 2 ^ (63 - t)) := by
      rw [← Nat.pow_succ', ← Nat.pow_add, show t + (63 - t + 1) = 64 by omega]
    generalize val ((ns.drop f).drop 1) = z
    rw [e1]
    generalize 2 ^ t = p
    generalize 2 ^ (63 - t) = q
    grind
  have hodd : val ns = 2 ^ (64 * f + t) * (2 * y + 1) := by rw [hv2, hy, Nat.pow_add, Nat.mul_assoc]
  have hp : 0 < 2 ^ (64 * f + t) := Nat.two_pow_pos _
  have hX : val ns / 2 ^ (64 * f + t) = 2 * y + 1 := by rw [hodd, Nat.mul_div_cancel_left _ hp]
  have hle : 64 * f + t ≤ Nat.log2 (val ns) := by
    rw [Nat.le_log2 hv0, hodd]
    exact Nat.le_mul_of_pos_right _ (by omega)
  refine ⟨hle, by omega, fun _ => by rw [hlen]; exact htp, hv1, ?_⟩
  intro n r hr hn
  have hL1 := Nat.log2_self_le hv0
  have hL2 : val ns < 2 ^ (Nat.log2 (val ns) + 1) := Nat.lt_log2_self
  have hXlo : 2 ^ (64 * n) ≤ val ns / 2 ^ (64 * f + t) := by
    rw [Nat.le_div_iff_mul_le hp, ← Nat.pow_add]
    exact Nat.le_trans (Nat.pow_le_pow_right (by omega) (by omega)) hL1
  have hXhi : val ns / 2 ^ (64 * f + t) < 2 ^ (64 * (n + 1)) := by
    rw [Nat.div_lt_iff_lt_mul hp, ← Nat.pow_add]
    exact Nat.lt_of_lt_of_le hL2 (Nat.pow_le_pow_right (by omega) (by omega))
  have hval : val (digs (val ns / 2 ^ (64 * f + t)) (n + 1)) = 2 * y + 1 := by rw [val_digs, Nat.mod_eq_of_lt hXhi, hX]
  refine ⟨Or.inr ⟨?_, by rw [hval]; omega, digs_topped _ _ hXlo hXhi⟩, Or.inr ⟨hv0, 64 * f + t, rfl, ?_⟩, by omega⟩
  · intro h
    have := digs_length (val ns / 2 ^ (64 * f + t)) (n + 1)
    rw [h] at this; simp at this
  · rw [hval, hodd, Nat.mul_comm]

end Go.Proofs.Ytfocdhapjljooaa
