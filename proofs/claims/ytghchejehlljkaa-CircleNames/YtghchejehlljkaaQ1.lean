/- Own texts, put together: M M2 M3 M5 M6 M7 M8 Ep Eq. -/
import Derived.Laws.BitsAllLaws
import Ieee.Arith
/- Plain facts on words of 64 bits: the number that a list of words tells, its windows, and how they come of the words. -/
namespace Go.Proofs.Ytghchejehlljkaa

def val : List Nat → Nat
  | [] => 0
  | n :: r => n + 18446744073709551616 * val r

def Small (ns : List Nat) : Prop := ∀ n, n ∈ ns → n < 18446744073709551616

theorem small_getD {ns : List Nat} (h : Small ns) (i : Nat) : ns.getD i 0 < 18446744073709551616 := by
  by_cases hi : i < ns.length
  · have : ns.getD i 0 = ns[i] := by simp [List.getD, hi]
    rw [this]; exact h _ (List.getElem_mem hi)
  · simp [List.getD, List.getElem?_eq_none (Nat.le_of_not_lt hi)]

theorem small_drop {ns : List Nat} (h : Small ns) (p : Nat) : Small (ns.drop p) := fun n hn => h n (List.mem_of_mem_drop hn)

theorem val_split (ns : List Nat) : val ns = ns.getD 0 0 + 18446744073709551616 * val (ns.drop 1) := by
  cases ns <;> simp [val]

theorem b64 (p : Nat) : 2 ^ (64 * p) = 18446744073709551616 ^ p := by rw [Nat.pow_mul]

theorem val_div {ns : List Nat} (h : Small ns) (p : Nat) : val ns / 2 ^ (64 * p) = val (ns.drop p) := by
  induction p generalizing ns with
  | zero => simp
  | succ p ih =>
    have h0 := small_getD h 0
    rw [show 64 * (p + 1) = 64 + 64 * p by omega, Nat.pow_add, ← Nat.div_div_eq_div_mul, val_split ns]
    rw [show (2 : Nat) ^ 64 = 18446744073709551616 from rfl, Nat.add_mul_div_left _ _ (by omega), Nat.div_eq_of_lt h0, Nat.zero_add, ih (small_drop h 1), List.drop_drop, Nat.add_comm]

theorem getD_drop (ns : List Nat) (p i : Nat) : (ns.drop p).getD i 0 = ns.getD (p + i) 0 := by simp [List.getD]

theorem val_two {ns : List Nat} (p : Nat) : ∃ y, val (ns.drop p) = ns.getD p 0 + 18446744073709551616 * (ns.getD (p + 1) 0 + 18446744073709551616 * y) := by
  refine ⟨val (ns.drop (p + 2)), ?_⟩
  rw [val_split (ns.drop p), val_split ((ns.drop p).drop 1), getD_drop, List.drop_drop, List.drop_drop, getD_drop]
  rfl

/-- The word whose lowest bit is the bit 'at' of 'val ns * 2 ^ low'. -/
def win (ns : List Nat) (low at' : Int) : Nat :=
  if at' < low then val ns * 2 ^ (low - at').toNat % 18446744073709551616 else val ns / 2 ^ (at' - low).toNat % 18446744073709551616

theorem win_lt (ns : List Nat) (low at' : Int) : win ns low at' < 18446744073709551616 := by
  unfold win; split <;> exact Nat.mod_lt _ (by omega)

theorem mul_pow_mod (x k : Nat) : x * 2 ^ min k 64 % 18446744073709551616 = x * 2 ^ k % 18446744073709551616 := by
  by_cases hk : k ≤ 64
  · rw [Nat.min_eq_left hk]
  · rw [Nat.min_eq_right (by omega)]
    rw [show k = 64 + (k - 64) by omega, Nat.pow_add, ← Nat.mul_assoc]
    rw [show (2 : Nat) ^ 64 = 18446744073709551616 from rfl]
    rw [Nat.mul_mod_left, Nat.mul_right_comm, Nat.mul_mod_left]

theorem win_low_eq (ns : List Nat) (k : Nat) : ns.getD 0 0 * 2 ^ min k 64 % 18446744073709551616 = val ns * 2 ^ k % 18446744073709551616 := by
  rw [mul_pow_mod, val_split ns, Nat.add_mul, Nat.mul_right_comm, Nat.mul_comm 18446744073709551616, Nat.mul_right_comm, Nat.add_mul_mod_self_right]

theorem or_eq (x0 x1 y r : Nat) (hx0 : x0 < 18446744073709551616) (hr : r < 64) :
    (x0 / 2 ^ r) ||| (x1 * 2 ^ (64 - r) % 18446744073709551616) = (x0 + 18446744073709551616 * (x1 + 18446744073709551616 * y)) / 2 ^ r % 18446744073709551616 := by
  have hc : 0 < 2 ^ r := Nat.two_pow_pos r
  have hB : 18446744073709551616 = 2 ^ r * 2 ^ (64 - r) := by rw [← Nat.pow_add, show r + (64 - r) = 64 by omega]
  have hlt : x0 / 2 ^ r < 2 ^ (64 - r) := by rw [Nat.div_lt_iff_lt_mul hc, Nat.mul_comm, ← hB]; exact hx0
  have e1 : x1 * 2 ^ (64 - r) % 18446744073709551616 = 2 ^ (64 - r) * (x1 % 2 ^ r) := by
    rw [Nat.mul_comm x1, hB, Nat.mul_comm (2 ^ r), Nat.mul_mod_mul_left]
  have e2 : (x0 + 18446744073709551616 * (x1 + 18446744073709551616 * y)) / 2 ^ r = x0 / 2 ^ r + 2 ^ (64 - r) * (x1 + 18446744073709551616 * y) := by
    have : x0 + 18446744073709551616 * (x1 + 18446744073709551616 * y) = x0 + 2 ^ r * (2 ^ (64 - r) * (x1 + 18446744073709551616 * y)) := by
      rw [← Nat.mul_assoc (2 ^ r), ← hB]
    rw [this, Nat.add_mul_div_left _ _ hc]
  rw [e1, e2, Nat.or_comm, ← Nat.two_pow_add_eq_or_of_lt hlt]
  have e3 : x0 / 2 ^ r + 2 ^ (64 - r) * (x1 + 18446744073709551616 * y) = x0 / 2 ^ r + 2 ^ (64 - r) * x1 + 18446744073709551616 * (2 ^ (64 - r) * y) := by
    rw [Nat.mul_add, Nat.add_assoc]; congr 2; rw [← Nat.mul_assoc, Nat.mul_comm (2 ^ (64 - r)), Nat.mul_assoc]
  rw [e3, Nat.add_mul_mod_self_left]
  have hx1 : x1 = 2 ^ r * (x1 / 2 ^ r) + x1 % 2 ^ r := (Nat.div_add_mod x1 (2 ^ r)).symm
  have e4 : x0 / 2 ^ r + 2 ^ (64 - r) * x1 = (2 ^ (64 - r) * (x1 % 2 ^ r) + x0 / 2 ^ r) + 18446744073709551616 * (x1 / 2 ^ r) := by
    conv => lhs; rw [hx1]
    rw [Nat.mul_add, ← Nat.mul_assoc, Nat.mul_comm (2 ^ (64 - r)) (2 ^ r), ← hB]; omega
  rw [e4, Nat.add_mul_mod_self_left]
  refine (Nat.mod_eq_of_lt ?_).symm
  have hm : x1 % 2 ^ r + 1 ≤ 2 ^ r := Nat.mod_lt _ hc
  calc 2 ^ (64 - r) * (x1 % 2 ^ r) + x0 / 2 ^ r < 2 ^ (64 - r) * (x1 % 2 ^ r) + 2 ^ (64 - r) := by omega
    _ = 2 ^ (64 - r) * (x1 % 2 ^ r + 1) := by rw [Nat.mul_add, Nat.mul_one]
    _ ≤ 2 ^ (64 - r) * 2 ^ r := Nat.mul_le_mul_left _ hm
    _ = 18446744073709551616 := by rw [Nat.mul_comm, ← hB]

theorem win_high_eq {ns : List Nat} (h : Small ns) (k : Nat) :
    (ns.getD (k / 64) 0 / 2 ^ (k % 64)) ||| (ns.getD (k / 64 + 1) 0 * 2 ^ (64 - k % 64) % 18446744073709551616) = val ns / 2 ^ k % 18446744073709551616 := by
  obtain ⟨y, hy⟩ := val_two (ns := ns) (k / 64)
  rw [or_eq _ _ y _ (small_getD h _) (Nat.mod_lt _ (by omega)), ← hy, ← val_div h, Nat.div_div_eq_div_mul, ← Nat.pow_add, Nat.div_add_mod]

/-- The last word is not nought (or there is none). -/
def Topped (ns : List Nat) : Prop := ns ≠ [] → ns.getD (ns.length - 1) 0 ≠ 0

theorem val_lt {ns : List Nat} (h : Small ns) : val ns < 2 ^ (64 * ns.length) := by
  induction ns with
  | nil => simp [val]
  | cons a r ih =>
    have h0 : a < 18446744073709551616 := h a (by simp)
    have h1 := ih (fun n hn => h n (by simp [hn]))
    rw [List.length_cons, show 64 * (r.length + 1) = 64 + 64 * r.length by omega, Nat.pow_add, val, show (2 : Nat) ^ 64 = 18446744073709551616 from rfl]
    omega

theorem val_append (a b : List Nat) : val (a ++ b) = val a + 2 ^ (64 * a.length) * val b := by
  induction a with
  | nil => simp [val]
  | cons x r ih =>
    rw [List.cons_append, val, val, ih, List.length_cons, show 64 * (r.length + 1) = 64 + 64 * r.length by omega, Nat.pow_add, show (2 : Nat) ^ 64 = 18446744073709551616 from rfl, Nat.mul_add, Nat.mul_assoc, Nat.add_assoc]

theorem val_last {ns : List Nat} (hne : ns ≠ []) : val ns = val ns.dropLast + 2 ^ (64 * (ns.length - 1)) * ns.getD (ns.length - 1) 0 := by
  have h := List.dropLast_concat_getLast hne
  have hl : ns.getD (ns.length - 1) 0 = ns.getLast hne := by
    have hp := List.length_pos_iff.2 hne
    rw [List.getLast_eq_getElem, List.getD, List.getElem?_eq_getElem (by omega)]; rfl
  have h2 : val ns = val (ns.dropLast ++ [ns.getLast hne]) := by rw [h]
  rw [h2, val_append, hl]
  simp [val]

theorem log2_val {ns : List Nat} (h : Small ns) (hne : ns ≠ []) (ht : ns.getD (ns.length - 1) 0 ≠ 0) : Nat.log2 (val ns) = 64 * (ns.length - 1) + Nat.log2 (ns.getD (ns.length - 1) 0) := by
  have h1 : val ns.dropLast < 2 ^ (64 * (ns.length - 1)) := by
    have := val_lt (ns := ns.dropLast) (fun n hn => h n (List.dropLast_subset _ hn))
    simpa using this
  rw [val_last hne]
  generalize ns.getD (ns.length - 1) 0 = t at *
  generalize val ns.dropLast = v at *
  generalize 64 * (ns.length - 1) = e at *
  have h2 := Nat.log2_self_le ht
  have h3 : t < 2 ^ (Nat.log2 t + 1) := Nat.lt_log2_self
  have hp : 0 < 2 ^ e := Nat.two_pow_pos e
  have h5 : v + 2 ^ e * t ≠ 0 := by
    have := Nat.mul_pos hp (Nat.pos_of_ne_zero ht); omega
  rw [Nat.log2_eq_iff h5]
  refine ⟨?_, ?_⟩
  · rw [Nat.pow_add]
    exact Nat.le_trans (Nat.mul_le_mul_left _ h2) (Nat.le_add_left _ _)
  · have h6 : t + 1 ≤ 2 ^ (Nat.log2 t + 1) := h3
    have h7 := Nat.mul_le_mul_left (2 ^ e) h6
    rw [show e + Nat.log2 t + 1 = e + (Nat.log2 t + 1) by omega, Nat.pow_add]
    rw [Nat.mul_add, Nat.mul_one] at h7
    omega

theorem val_pos {ns : List Nat} (hne : ns ≠ []) (ht : ns.getD (ns.length - 1) 0 ≠ 0) : val ns ≠ 0 := by
  rw [val_last hne]
  have := Nat.mul_pos (Nat.two_pow_pos (64 * (ns.length - 1))) (Nat.pos_of_ne_zero ht)
  omega

/-- The highest bit (0 of nothing). -/
def hiB (ns : List Nat) (low : Int) : Int := if ns = [] then 0 else low + (Nat.log2 (val ns) : Nat)

theorem castMul (a b : Nat) : (a : Int) * 2 ^ b % 18446744073709551616 = ((a * 2 ^ b % 18446744073709551616 : Nat) : Int) := by
  rw [Int.natCast_emod, Int.natCast_mul, Int.natCast_pow]; rfl

theorem castDiv (a b : Nat) : (a : Int) / 2 ^ b = ((a / 2 ^ b : Nat) : Int) := by
  rw [Int.natCast_ediv, Int.natCast_pow]; rfl

end Go.Proofs.Ytghchejehlljkaa

/- Plain facts: the words of a number, cut out at a bit; a magnitude in its own form. -/
namespace Go.Proofs.Ytghchejehlljkaa

/-- n words of X, the lowest first. -/
def digs (X n : Nat) : List Nat := (List.range n).map fun i => X / 2 ^ (64 * i) % 18446744073709551616

theorem digs_length (X n : Nat) : (digs X n).length = n := by simp [digs]

theorem digs_small (X n : Nat) : Small (digs X n) := by
  intro m hm
  simp only [digs, List.mem_map] at hm
  obtain ⟨i, _, rfl⟩ := hm
  exact Nat.mod_lt _ (by omega)

theorem digs_getD (X n i : Nat) (h : i < n) : (digs X n).getD i 0 = X / 2 ^ (64 * i) % 18446744073709551616 := by
  simp [digs, List.getD, h]

theorem val_digs (X n : Nat) : val (digs X n) = X % 2 ^ (64 * n) := by
  induction n with
  | zero => simp [digs, val, Nat.mod_one]
  | succ n ih =>
    have e : digs X (n + 1) = digs X n ++ [X / 2 ^ (64 * n) % 18446744073709551616] := by simp [digs, List.range_succ]
    rw [e, val_append, ih, digs_length, show 64 * (n + 1) = 64 * n + 64 by omega, Nat.pow_add, Nat.mod_mul]
    simp [val]

theorem digs_topped (X n : Nat) (h0 : 2 ^ (64 * n) ≤ X) (h1 : X < 2 ^ (64 * (n + 1))) : Topped (digs X (n + 1)) := by
  intro _
  rw [digs_length, Nat.add_sub_cancel, digs_getD _ _ _ (by omega)]
  have hp : 0 < 2 ^ (64 * n) := Nat.two_pow_pos _
  have h2 : X / 2 ^ (64 * n) < 18446744073709551616 := by
    rw [Nat.div_lt_iff_lt_mul hp, show (18446744073709551616 : Nat) = 2 ^ 64 from rfl, ← Nat.pow_add, show 64 + 64 * n = 64 * (n + 1) by omega]
    exact h1
  rw [Nat.mod_eq_of_lt h2]
  have := Nat.div_le_div_right (c := 2 ^ (64 * n)) h0
  rw [Nat.div_self hp] at this
  omega

/-- A magnitude in its own form. -/
def OwnF (ns : List Nat) (low : Int) : Prop := (ns = [] ∧ low = 0) ∨ (ns ≠ [] ∧ val ns % 2 = 1 ∧ Topped ns)

/-- The words ns', from the bit low' on, tell the number that V does from the bit low on. -/
def Tells (V : Nat) (low : Int) (ns' : List Nat) (low' : Int) : Prop := (V = 0 ∧ ns' = [] ∧ low' = 0) ∨ (V ≠ 0 ∧ ∃ k : Nat, low' = low + (k : Nat) ∧ V = val ns' * 2 ^ k)

theorem val_zero {ns : List Nat} (h : ∀ j, ns.getD j 0 = 0) : val ns = 0 := by
  induction ns with
  | nil => rfl
  | cons a r ih =>
    have h0 : a = 0 := by simpa using h 0
    have h1 := ih (fun j => by have := h (j + 1); simpa using this)
    rw [val, h0, h1]

theorem val_take {ns : List Nat} (e : Nat) (h : ∀ j, e ≤ j → ns.getD j 0 = 0) : val (ns.take e) = val ns := by
  conv => rhs; rw [← List.take_append_drop e ns]
  rw [val_append, val_zero (ns := ns.drop e), Nat.mul_zero, Nat.add_zero]
  intro j
  rw [getD_drop]; exact h _ (by omega)

theorem take_getD {ns : List Nat} (e j : Nat) (h : j < e) : (ns.take e).getD j 0 = ns.getD j 0 := by
  simp [List.getD, h]

theorem val_low {ns : List Nat} (hs : Small ns) (f : Nat) (h : ∀ j, j < f → ns.getD j 0 = 0) : val ns = 2 ^ (64 * f) * val (ns.drop f) := by
  have h1 : val (ns.take f) = 0 := by
    refine val_zero fun j => ?_
    by_cases hj : j < f
    · rw [take_getD f j hj]; exact h j hj
    · simp [List.getD, List.getElem?_eq_none (show (ns.take f).length ≤ j by simp; omega)]
  by_cases hf : f ≤ ns.length
  · conv => lhs; rw [← List.take_append_drop f ns]
    rw [val_append, h1, Nat.zero_add, List.length_take, Nat.min_eq_left hf]
  · have h2 : val ns = 0 := by rw [List.take_of_length_le (by omega)] at h1; exact h1
    rw [h2, ← val_div hs, h2]; simp

/-- What ownForm makes: all of it. -/
theorem own_math {ns : List Nat} (hs : Small ns) (low : Int) (f e t m : Nat) (hfe : f < e) (hel : e ≤ ns.length) (hhi : ∀ j, e ≤ j → ns.getD j 0 = 0) (htop : ns.getD (e - 1) 0 ≠ 0) (hlo : ∀ j, j < f → ns.getD j 0 = 0) (hf : ns.getD f 0 = 2 ^ t * (2 * m + 1)) (ht : t < 64) :
    64 * f + t ≤ Nat.log2 (val ns) ∧ Nat.log2 (val ns) < 64 * e ∧ Topped (ns.take e) ∧ val (ns.take e) = val ns ∧
    (∀ n r, r < 64 → Nat.log2 (val ns) - (64 * f + t) = 64 * n + r →
      OwnF (digs (val ns / 2 ^ (64 * f + t)) (n + 1)) (low + (64 * f + t : Nat)) ∧ Tells (val ns) low (digs (val ns / 2 ^ (64 * f + t)) (n + 1)) (low + (64 * f + t : Nat)) ∧ n + 1 ≤ e) := by
  have hv1 := val_take e hhi
  have hlen : (ns.take e).length = e := by simp; omega
  have hne : ns.take e ≠ [] := by intro h; rw [h] at hlen; simp at hlen; omega
  have htp : (ns.take e).getD (e - 1) 0 ≠ 0 := by rw [take_getD _ _ (by omega)]; exact htop
  have hst : Small (ns.take e) := fun n hn => hs n (List.mem_of_mem_take hn)
  have hlog := log2_val hst hne (by rw [hlen]; exact htp)
  rw [hlen, hv1] at hlog
  have hlt : Nat.log2 ((ns.take e).getD (e - 1) 0) < 64 := (Nat.log2_lt htp).2 (small_getD hst _)
  have hv0 : val ns ≠ 0 := by rw [← hv1]; exact val_pos hne (by rw [hlen]; exact htp)
  -- the odd part
  have hv2 := val_low hs f hlo
  obtain ⟨y, hy⟩ : ∃ y, val (ns.drop f) = 2 ^ t * (2 * y + 1) := by
    rw [val_split (ns.drop f), getD_drop, Nat.add_zero, hf]
    refine ⟨m + 2 ^ (63 - t) * val ((ns.drop f).drop 1), ?_⟩
    have e1 : 18446744073709551616 = 2 ^ t * (2 * 2 ^ (63 - t)) := by
      rw [← Nat.pow_succ', ← Nat.pow_add, show t + (63 - t + 1) = 64 by omega]
    generalize val ((ns.drop f).drop 1) = z
    rw [e1]
    generalize 2 ^ t = p
    generalize 2 ^ (63 - t) = q
    grind
  have hodd : val ns = 2 ^ (64 * f + t) * (2 * y + 1) := by rw [hv2, hy, Nat.pow_add, Nat.mul_assoc]
  have hp : 0 < 2 ^ (64 * f + t) := Nat.two_pow_pos _
  have hX : val ns / 2 ^ (64 * f + t) = 2 * y + 1 := by rw [hodd, Nat.mul_div_cancel_left _ hp]
  have hle : 64 * f + t ≤ Nat.log2 (val ns) := by
    rw [Nat.le_log2 hv0, hodd]
    exact Nat.le_mul_of_pos_right _ (by omega)
  refine ⟨hle, by omega, fun _ => by rw [hlen]; exact htp, hv1, ?_⟩
  intro n r hr hn
  have hL1 := Nat.log2_self_le hv0
  have hL2 : val ns < 2 ^ (Nat.log2 (val ns) + 1) := Nat.lt_log2_self
  have hXlo : 2 ^ (64 * n) ≤ val ns / 2 ^ (64 * f + t) := by
    rw [Nat.le_div_iff_mul_le hp, ← Nat.pow_add]
    exact Nat.le_trans (Nat.pow_le_pow_right (by omega) (by omega)) hL1
  have hXhi : val ns / 2 ^ (64 * f + t) < 2 ^ (64 * (n + 1)) := by
    rw [Nat.div_lt_iff_lt_mul hp, ← Nat.pow_add]
    exact Nat.lt_of_lt_of_le hL2 (Nat.pow_le_pow_right (by omega) (by omega))
  have hval : val (digs (val ns / 2 ^ (64 * f + t)) (n + 1)) = 2 * y + 1 := by rw [val_digs, Nat.mod_eq_of_lt hXhi, hX]
  refine ⟨Or.inr ⟨?_, by rw [hval]; omega, digs_topped _ _ hXlo hXhi⟩, Or.inr ⟨hv0, 64 * f + t, rfl, ?_⟩, by omega⟩
  · intro h
    have := digs_length (val ns / 2 ^ (64 * f + t)) (n + 1)
    rw [h] at this; simp at this
  · rw [hval, hodd, Nat.mul_comm]

end Go.Proofs.Ytghchejehlljkaa

/- Plain facts: two magnitudes brought to one lowest bit. -/
namespace Go.Proofs.Ytghchejehlljkaa

theorem own_topped {ns : List Nat} {low : Int} (h : OwnF ns low) : Topped ns := by
  rcases h with ⟨rfl, _⟩ | ⟨_, _, h⟩
  · intro h; exact absurd rfl h
  · exact h

theorem own_val {ns : List Nat} {low : Int} (h : OwnF ns low) (hne : ns ≠ []) : val ns ≠ 0 := by
  rcases h with ⟨rfl, _⟩ | ⟨_, h, _⟩
  · exact absurd rfl hne
  · omega

theorem own_low_hi {ns : List Nat} {low : Int} (h : OwnF ns low) : low ≤ hiB ns low := by
  unfold hiB
  rcases h with ⟨rfl, rfl⟩ | ⟨hne, _, _⟩
  · simp
  · rw [if_neg hne]; omega

/-- A magnitude lies below the bit above its highest one. -/
theorem val_hi {ns : List Nat} {low L : Int} (h : OwnF ns low) (k : Nat) (hk : low = L + (k : Nat)) (e : Nat) (he : hiB ns low - L + 1 ≤ (e : Nat)) : val ns * 2 ^ k < 2 ^ e := by
  rcases h with ⟨rfl, _⟩ | ⟨hne, _, _⟩
  · simp only [val, Nat.zero_mul]; exact Nat.two_pow_pos e
  · unfold hiB at he
    rw [if_neg hne] at he
    have h1 : val ns < 2 ^ (Nat.log2 (val ns) + 1) := Nat.lt_log2_self
    have h2 : val ns * 2 ^ k < 2 ^ (Nat.log2 (val ns) + 1) * 2 ^ k := Nat.mul_lt_mul_of_pos_right h1 (Nat.two_pow_pos k)
    rw [← Nat.pow_add] at h2
    exact Nat.lt_of_lt_of_le h2 (Nat.pow_le_pow_right (by omega) (by omega))

theorem val_digs_of {X n : Nat} (h : X < 2 ^ (64 * n)) : val (digs X n) = X := by rw [val_digs, Nat.mod_eq_of_lt h]

end Go.Proofs.Ytghchejehlljkaa

/- Plain facts: numbers as rationals; which may be. -/
namespace Go.Proofs.Ytghchejehlljkaa

/-- A power of two. -/
def p2 (e : Int) : Rat := 2 ^ e

theorem p2_pos (e : Int) : 0 < p2 e := Rat.zpow_pos (by decide)
theorem p2_ne (e : Int) : p2 e ≠ 0 := Rat.ne_of_gt (p2_pos e)
theorem p2_add (a b : Int) : p2 (a + b) = p2 a * p2 b := Rat.zpow_add (by decide) a b
theorem p2_zero : p2 0 = 1 := Rat.zpow_zero 2
theorem p2_one : p2 1 = 2 := Rat.zpow_one 2
theorem p2_nat (n : Nat) : p2 (n : Int) = ((2 ^ n : Nat) : Rat) := by
  unfold p2; rw [Rat.zpow_natCast, Rat.natCast_pow]; rfl
theorem p2_neg (e : Int) : p2 (-e) * p2 e = 1 := by rw [← p2_add, Int.add_left_neg, p2_zero]

theorem p2_le_nat (n : Nat) : 1 ≤ p2 (n : Int) := by
  rw [p2_nat]
  have h : 1 ≤ 2 ^ n := Nat.two_pow_pos n
  have := (Rat.natCast_le_natCast (a := 1) (b := 2 ^ n)).2 h
  simpa using this

theorem p2_mono {a b : Int} (h : a ≤ b) : p2 a ≤ p2 b := by
  obtain ⟨n, rfl⟩ : ∃ n : Nat, b = a + (n : Int) := ⟨(b - a).toNat, by omega⟩
  rw [p2_add]
  have h1 := Rat.mul_le_mul_of_nonneg_left (p2_le_nat n) (Rat.le_of_lt (p2_pos a))
  grind

theorem p2_lt {a b : Int} (h : a < b) : p2 a < p2 b := by
  have h1 : p2 (a + 1) ≤ p2 b := p2_mono (by omega)
  have h2 := p2_pos a
  rw [p2_add, p2_one] at h1
  grind

theorem p2_le_iff {a b : Int} : p2 a ≤ p2 b ↔ a ≤ b := by
  refine ⟨fun h => ?_, p2_mono⟩
  rcases Int.lt_or_le b a with h1 | h1
  · have := p2_lt h1; grind
  · exact h1

theorem p2_lt_iff {a b : Int} : p2 a < p2 b ↔ a < b := by
  refine ⟨fun h => ?_, p2_lt⟩
  rcases Int.lt_or_le a b with h1 | h1
  · exact h1
  · have := p2_mono h1; grind

/-- What a magnitude tells. -/
def magR (ns : List Nat) (low : Int) : Rat := (val ns : Nat) * p2 low

theorem magR_nonneg (ns : List Nat) (low : Int) : 0 ≤ magR ns low := Rat.mul_nonneg Rat.natCast_nonneg (Rat.le_of_lt (p2_pos low))

theorem nat_mul_p2 (V k : Nat) : ((V * 2 ^ k : Nat) : Rat) = (V : Nat) * p2 (k : Nat) := by rw [p2_nat, Rat.natCast_mul]

theorem tells_magR {V : Nat} {low : Int} {ns' : List Nat} {low' : Int} (h : Tells V low ns' low') : magR ns' low' = (V : Nat) * p2 low := by
  rcases h with ⟨rfl, rfl, rfl⟩ | ⟨_, k, rfl, rfl⟩
  · simp [magR, val]
  · rw [magR, nat_mul_p2, p2_add]; grind

theorem magR_at (ns : List Nat) (low L : Int) (k : Nat) (h : low = L + (k : Nat)) : magR ns low = ((val ns * 2 ^ k : Nat) : Rat) * p2 L := by
  rw [magR, h, nat_mul_p2, p2_add]; grind

/-- A number that may be: its highest bit is at most 65536, its lowest at least -65536. -/
def May (q : Rat) : Prop := q < p2 65537 ∧ -p2 65537 < q ∧ ∃ n : Int, q = (n : Rat) * p2 (-65536)

theorem may_neg {q : Rat} (h : May q) : May (-q) := by
  obtain ⟨h1, h2, n, h3⟩ := h
  refine ⟨by grind, by grind, -n, ?_⟩
  rw [h3, Rat.intCast_neg]; grind

theorem own_lo {ns : List Nat} {low : Int} (h : OwnF ns low) (hne : ns ≠ []) : p2 (hiB ns low) ≤ magR ns low ∧ magR ns low < p2 (hiB ns low + 1) := by
  have hv := own_val h hne
  unfold hiB magR
  rw [if_neg hne]
  have h1 := Nat.log2_self_le hv
  have h2 : val ns < 2 ^ (Nat.log2 (val ns) + 1) := Nat.lt_log2_self
  have h1' := (Rat.natCast_le_natCast).2 h1
  have h2' := (Rat.natCast_lt_natCast).2 h2
  have hp := p2_pos low
  rw [show low + (Nat.log2 (val ns) : Int) = (Nat.log2 (val ns) : Int) + low by omega, p2_add, show (Nat.log2 (val ns) : Int) + low + 1 = ((Nat.log2 (val ns) + 1 : Nat) : Int) + low by omega, p2_add, p2_nat, p2_nat]
  exact ⟨Rat.mul_le_mul_of_nonneg_right h1' (Rat.le_of_lt hp), Rat.mul_lt_mul_of_pos_right h2' hp⟩

theorem may_iff {ns : List Nat} {low : Int} (h : OwnF ns low) : (hiB ns low ≤ 65536 ∧ -65536 ≤ low) ↔ May (magR ns low) := by
  by_cases hne : ns = []
  · have hl : low = 0 := by
      rcases h with ⟨_, h⟩ | ⟨h, _⟩
      · exact h
      · exact absurd hne h
    subst hl
    subst hne
    refine ⟨fun _ => ?_, fun _ => by simp [hiB]⟩
    have := p2_pos 65537
    refine ⟨by simp [magR, val]; exact this, by simp [magR, val]; grind, 0, by simp [magR, val]⟩
  · obtain ⟨h1, h2⟩ := own_lo h hne
    have hn := magR_nonneg ns low
    have hp := p2_pos 65537
    constructor
    · rintro ⟨ha, hb⟩
      refine ⟨?_, by grind, ?_⟩
      · have : p2 (hiB ns low + 1) ≤ p2 65537 := p2_mono (by omega)
        grind
      · obtain ⟨k, hk⟩ : ∃ k : Nat, low = -65536 + (k : Int) := ⟨(low + 65536).toNat, by omega⟩
        refine ⟨((val ns * 2 ^ k : Nat) : Int), ?_⟩
        rw [magR_at ns low (-65536) k hk]; rfl
    · rintro ⟨ha, _, n, hq⟩
      constructor
      · have : p2 (hiB ns low) < p2 65537 := by grind
        have := p2_lt_iff.1 this
        omega
      · rcases Int.lt_or_le low (-65536) with hlt | hge
        · exfalso
          obtain ⟨k, hk⟩ : ∃ k : Nat, (-65536 : Int) = low + ((k + 1 : Nat) : Int) := ⟨(-65536 - low - 1).toNat, by omega⟩
          have hodd : val ns % 2 = 1 := by
            rcases h with ⟨h, _⟩ | ⟨_, h, _⟩
            · exact absurd h hne
            · exact h
          have e1 : ((val ns : Nat) : Rat) * p2 low = (n : Rat) * p2 ((k + 1 : Nat) : Int) * p2 low := by
            have := hq
            rw [hk, p2_add, magR] at this
            grind
          have e2 : ((val ns : Nat) : Rat) = (n : Rat) * p2 ((k + 1 : Nat) : Int) := by
            have := p2_ne low
            grind
          rw [p2_nat] at e2
          have e3 : ((val ns : Nat) : Int) = n * ((2 ^ (k + 1) : Nat) : Int) := by
            have e4 : (((val ns : Nat) : Int) : Rat) = ((n * ((2 ^ (k + 1) : Nat) : Int) : Int) : Rat) := by
              rw [Rat.intCast_mul]; exact e2
            exact Rat.intCast_inj.1 e4
          have e5 : n * ((2 ^ (k + 1) : Nat) : Int) = 2 * (n * ((2 ^ k : Nat) : Int)) := by rw [Nat.pow_succ]; grind
          omega
        · exact hge

end Go.Proofs.Ytghchejehlljkaa

/- Plain facts on floats: what a word denotes, as a rational; how two words stand to each other. -/
namespace Go.Proofs.Ytghchejehlljkaa

def fneg (b : Nat) : Bool := b / 9223372036854775808 % 2 == 1
def frung (b : Nat) : Nat := b % 9223372036854775808
def fmag (r : Nat) : Nat := if r < 4503599627370496 then r else 4503599627370496 + r % 4503599627370496
def fpl (r : Nat) : Int := if r < 4503599627370496 then -1074 else -1074 + ((r / 4503599627370496 - 1 : Nat) : Int)

/-- The word is of a finite float. -/
def Fin64 (b : Nat) : Prop := frung b < 9218868437227405312

def sgn1 (b : Bool) : Rat := if b then -1 else 1

/-- The number that a finite float denotes. -/
def fval (b : Nat) : Rat := sgn1 (fneg b) * ((fmag (frung b) : Nat) * p2 (fpl (frung b)))

theorem d_sw : Ieee.double.signWeight = 9223372036854775808 := by decide
theorem d_bin : Ieee.double.binade = 4503599627370496 := by decide
theorem d_inf : Ieee.double.infRung = 9218868437227405312 := by decide
theorem d_lp : Ieee.double.leastPlace = -1074 := by decide

theorem read_fin {b : Nat} (h : Fin64 b) : Ieee.double.read b = .number (fneg b) (fmag (frung b)) (fpl (frung b)) := by
  unfold Fin64 frung at h
  unfold Ieee.Format.read fneg fmag fpl frung
  simp only [d_sw, d_bin, d_inf, d_lp]
  by_cases h1 : b % 9223372036854775808 < 4503599627370496
  · simp only [h1, if_true]
  · simp only [h1, if_false, h, if_true]

theorem read_inf {b : Nat} (h : frung b = 9218868437227405312) : Ieee.double.read b = .infinity (fneg b) := by
  unfold frung at h
  unfold Ieee.Format.read fneg
  simp only [d_sw, d_bin, d_inf, h]
  rfl

theorem read_nan {b : Nat} (h : 9218868437227405312 < frung b) : ∃ s t, Ieee.double.read b = .nan s t := by
  unfold frung at h
  unfold Ieee.Format.read
  simp only [d_sw, d_bin, d_inf]
  rw [if_neg (by omega), if_neg (by omega), if_neg (by omega)]
  exact ⟨_, _, rfl⟩

theorem signed_p2 (s : Bool) (m up : Nat) (base : Int) : ((Ieee.signed s m up : Int) : Rat) * p2 base = sgn1 s * ((m : Nat) * p2 (base + (up : Nat))) := by
  unfold Ieee.signed sgn1
  rw [Nat.shiftLeft_eq, p2_add]
  have e : ((m * 2 ^ up : Nat) : Rat) = (m : Nat) * p2 (up : Nat) := nat_mul_p2 m up
  cases s
  · simp only [Bool.false_eq_true, if_false]
    have : (((m * 2 ^ up : Nat) : Int) : Rat) = ((m * 2 ^ up : Nat) : Rat) := rfl
    rw [this, e]; grind
  · simp only [if_true]
    have : ((-((m * 2 ^ up : Nat) : Int) : Int) : Rat) = -((m * 2 ^ up : Nat) : Rat) := by rw [Rat.intCast_neg]; rfl
    rw [this, e]; grind

theorem compare_int (x y : Int) : compare x y = if x < y then .lt else if x = y then .eq else .gt := rfl

/-- How two finite floats stand to each other. -/
theorem order_fin {b c : Nat} (hb : Fin64 b) (hc : Fin64 c) : Ieee.double.order b c = some (if fval b < fval c then .lt else if fval b = fval c then .eq else .gt) := by
  unfold Ieee.Format.order
  rw [read_fin hb, read_fin hc]
  unfold Ieee.Datum.order
  simp only
  unfold fval
  generalize fneg b = s
  generalize fneg c = t
  generalize fmag (frung b) = m
  generalize fmag (frung c) = n
  generalize fpl (frung b) = i
  generalize fpl (frung c) = j
  have e1 := signed_p2 s m (i - min i j).toNat (min i j)
  have e2 := signed_p2 t n (j - min i j).toNat (min i j)
  rw [show min i j + ((i - min i j).toNat : Int) = i by omega] at e1
  rw [show min i j + ((j - min i j).toNat : Int) = j by omega] at e2
  rw [← e1, ← e2, compare_int]
  generalize Ieee.signed s m (i - min i j).toNat = x
  generalize Ieee.signed t n (j - min i j).toNat = y
  have hp := p2_pos (min i j)
  have l1 : (x : Rat) * p2 (min i j) < (y : Rat) * p2 (min i j) ↔ x < y := by rw [Rat.mul_lt_mul_right hp, Rat.intCast_lt_intCast]
  have l2 : (x : Rat) * p2 (min i j) = (y : Rat) * p2 (min i j) ↔ x = y := by
    constructor
    · intro h
      have hn := p2_ne (min i j)
      have : (x : Rat) = (y : Rat) := by grind
      exact Rat.intCast_inj.1 this
    · intro h; rw [h]
  simp only [l1, l2]

theorem order_nan_left {b c : Nat} (hb : 9218868437227405312 < frung b) : Ieee.double.order b c = none := by
  obtain ⟨s, t, h⟩ := read_nan hb
  unfold Ieee.Format.order
  rw [h]
  unfold Ieee.Datum.order
  rfl

theorem order_inf_fin {b c : Nat} (hb : frung b = 9218868437227405312) (hc : Fin64 c) : Ieee.double.order b c = some (if fneg b then .lt else .gt) := by
  unfold Ieee.Format.order
  rw [read_inf hb, read_fin hc]
  rfl

theorem order_inf_self {b : Nat} (hb : frung b = 9218868437227405312) : Ieee.double.order b b = some .eq := by
  unfold Ieee.Format.order
  rw [read_inf hb]
  unfold Ieee.Datum.order
  cases fneg b <;> rfl

theorem fval_pos_lt {r : Nat} (h : r < 9218868437227405312) : fval r = (fmag r : Nat) * p2 (fpl r) ∧ frung r = r := by
  have h1 : frung r = r := Nat.mod_eq_of_lt (by omega)
  have h2 : fneg r = false := by unfold fneg; rw [Nat.div_eq_of_lt (by omega)]; rfl
  refine ⟨?_, h1⟩
  unfold fval
  rw [h1, h2]; simp [sgn1]

theorem fmag_lt (r : Nat) : fmag r < 9007199254740992 := by unfold fmag; split <;> omega

theorem fval_nonneg {r : Nat} (h : r < 9218868437227405312) : 0 ≤ fval r := by
  rw [(fval_pos_lt h).1]; exact Rat.mul_nonneg Rat.natCast_nonneg (Rat.le_of_lt (p2_pos _))

/-- Below the least normal float. -/
theorem small_iff {r : Nat} (h : r < 9218868437227405312) : fval r < fval 4503599627370496 ↔ r < 4503599627370496 := by
  rw [(fval_pos_lt h).1, (fval_pos_lt (by omega : (4503599627370496 : Nat) < 9218868437227405312)).1]
  have e0 : fmag 4503599627370496 = 4503599627370496 := by decide
  have e1 : fpl 4503599627370496 = -1074 := by decide
  rw [e0, e1]
  have hp := p2_pos (-1074)
  constructor
  · intro hlt
    rcases Nat.lt_or_ge r 4503599627370496 with h1 | h1
    · exact h1
    · exfalso
      have h2 : 4503599627370496 ≤ fmag r := by unfold fmag; rw [if_neg (by omega)]; omega
      have h3 : (-1074 : Int) ≤ fpl r := by unfold fpl; rw [if_neg (by omega)]; omega
      have h4 := p2_mono h3
      have h5 := (Rat.natCast_le_natCast).2 h2
      have h6 : (0 : Rat) ≤ ((4503599627370496 : Nat) : Rat) := Rat.natCast_nonneg
      have h7 := Rat.mul_le_mul_of_nonneg_right h5 (Rat.le_of_lt (p2_pos (fpl r)))
      have h8 := Rat.mul_le_mul_of_nonneg_left h4 h6
      grind
  · intro hlt
    have h2 : fmag r = r := by unfold fmag; rw [if_pos hlt]
    have h3 : fpl r = -1074 := by unfold fpl; rw [if_pos hlt]
    rw [h2, h3, Rat.mul_lt_mul_right hp]
    exact Rat.natCast_lt_natCast.2 hlt

/-- No finite float is above the greatest. -/
theorem fval_le_max {r : Nat} (h : r < 9218868437227405312) : fval r ≤ fval 9218868437227405311 := by
  rw [(fval_pos_lt h).1, (fval_pos_lt (by omega : (9218868437227405311 : Nat) < 9218868437227405312)).1]
  have e0 : fmag 9218868437227405311 = 9007199254740991 := by decide
  have e1 : fpl 9218868437227405311 = 971 := by decide
  rw [e0, e1]
  have h2 : fmag r ≤ 9007199254740991 := by have := fmag_lt r; omega
  have h3 : fpl r ≤ 971 := by unfold fpl; split <;> omega
  have h4 := p2_mono h3
  have h5 := (Rat.natCast_le_natCast).2 h2
  have h6 : (0 : Rat) ≤ ((9007199254740991 : Nat) : Rat) := Rat.natCast_nonneg
  have h7 := Rat.mul_le_mul_of_nonneg_right h5 (Rat.le_of_lt (p2_pos (fpl r)))
  have h8 := Rat.mul_le_mul_of_nonneg_left h4 h6
  grind

theorem fval_zero_iff {b : Nat} : fval b = 0 ↔ frung b = 0 := by
  have hp := p2_ne (fpl (frung b))
  unfold fval
  constructor
  · intro h
    have h1 : ((fmag (frung b) : Nat) : Rat) = 0 := by
      unfold sgn1 at h
      split at h <;> grind
    have h2 : fmag (frung b) = 0 := Rat.natCast_eq_zero_iff.1 h1
    unfold fmag at h2
    split at h2 <;> omega
  · intro h
    rw [h]; simp [fmag]

/-- Nearest, where the number is a float's own. -/
theorem word_false (r : Nat) : Ieee.double.word false r = r := rfl

end Go.Proofs.Ytghchejehlljkaa

/- Plain facts on floats: rounding to the nearest word where nothing is rounded off. -/
namespace Go.Proofs.Ytghchejehlljkaa

theorem log2_mul_pow (m d : Nat) (hm : m ≠ 0) : Nat.log2 (m * 2 ^ d) = Nat.log2 m + d := by
  have h1 := Nat.log2_self_le hm
  have h2 : m < 2 ^ (Nat.log2 m + 1) := Nat.lt_log2_self
  have hp : 0 < 2 ^ d := Nat.two_pow_pos d
  rw [Nat.log2_eq_iff (Nat.mul_ne_zero hm (by omega))]
  refine ⟨by rw [Nat.pow_add]; exact Nat.mul_le_mul_right _ h1, ?_⟩
  rw [show Nat.log2 m + d + 1 = (Nat.log2 m + 1) + d by omega, Nat.pow_add]
  exact Nat.mul_lt_mul_of_pos_right h2 hp

theorem cut_exact (neg : Bool) (r d : Nat) : Ieee.Toward.even.cut neg (r * 2 ^ d) d = r := by
  unfold Ieee.Toward.cut
  simp only [Nat.one_shiftLeft]
  by_cases hr : r = 0
  · subst hr; simp
  · rw [log2_mul_pow r d hr, Nat.min_eq_left (by omega)]
    have hp : 0 < 2 ^ d := Nat.two_pow_pos d
    rw [Nat.mul_div_cancel _ hp, Nat.mul_mod_left]
    have e1 : (decide (2 ^ d < 2 * 0) || (2 ^ d == 2 * 0 && r % 2 == 1)) = false := by
      have : ¬ (2 ^ d < 2 * 0) := by omega
      have h2 : (2 ^ d == 2 * 0) = false := by rw [beq_eq_false_iff_ne]; omega
      simp [h2]
    rw [e1]; rfl

/-- A number with 53 bits at a place that floats have: its word. -/
theorem nearest_norm (M d : Nat) (place : Int) (h1 : 4503599627370496 ≤ M) (h2 : M < 9007199254740992) (hp : -1074 ≤ place + (d : Nat)) (hb : ((place + (d : Nat) + 1074).toNat) * 4503599627370496 + M < 9218868437227405312) :
    Ieee.double.nearest false (M * 2 ^ d) place = (place + (d : Nat) + 1074).toNat * 4503599627370496 + M := by
  have hM : M ≠ 0 := by omega
  have hL : Nat.log2 M = 52 := by rw [Nat.log2_eq_iff hM]; exact ⟨h1, h2⟩
  unfold Ieee.Format.nearest
  rw [if_neg (Nat.mul_ne_zero hM (Nat.ne_of_gt (Nat.two_pow_pos d)))]
  simp only [d_lp, d_bin, d_inf]
  have e0 : (Ieee.double.fractionBits : Int) = 52 := rfl
  rw [log2_mul_pow M d hM, hL, e0, show max (place + ((52 + d : Nat) : Int) - 52) (-1074) = place + (d : Nat) by omega]
  rw [show (place - (place + (d : Nat)) : Int).toNat = 0 by omega, show (place + (d : Nat) - place : Int).toNat = d by omega, Nat.shiftLeft_zero, cut_exact]
  rw [show (place + (d : Nat) - -1074 : Int) = place + (d : Nat) + 1074 by omega, Nat.min_eq_left (by omega)]
  rfl

/-- A number below the least normal float: its word. -/
theorem nearest_den (r d : Nat) (h2 : r < 4503599627370496) : Ieee.double.nearest false (r * 2 ^ d) (-1074 - (d : Nat)) = r := by
  by_cases hr : r = 0
  · subst hr; simp [Ieee.Format.nearest]; rfl
  · have hL : Nat.log2 r < 52 := (Nat.log2_lt hr).2 h2
    unfold Ieee.Format.nearest
    rw [if_neg (Nat.mul_ne_zero hr (Nat.ne_of_gt (Nat.two_pow_pos d)))]
    simp only [d_lp, d_bin, d_inf]
    have e0 : (Ieee.double.fractionBits : Int) = 52 := rfl
    rw [log2_mul_pow r d hr, e0, show max (-1074 - (d : Int) + ((Nat.log2 r + d : Nat) : Int) - 52) (-1074) = -1074 by omega]
    rw [show (-1074 - (d : Int) - -1074 : Int).toNat = 0 by omega, show ((-1074 : Int) - (-1074 - (d : Int))).toNat = d by omega, Nat.shiftLeft_zero, cut_exact]
    rw [show ((-1074 : Int) - -1074).toNat = 0 by decide, Nat.zero_mul, Nat.zero_add, Nat.min_eq_left (by omega)]
    rfl

theorem read_norm (E u : Nat) (hE : 1 ≤ E) (hE2 : E ≤ 2046) (hu : u < 4503599627370496) : Ieee.double.read (E * 4503599627370496 + u) = .number false (4503599627370496 + u) (-1075 + (E : Int)) := by
  have hf : Fin64 (E * 4503599627370496 + u) := by unfold Fin64 frung; omega
  rw [read_fin hf]
  have h1 : frung (E * 4503599627370496 + u) = E * 4503599627370496 + u := Nat.mod_eq_of_lt (by omega)
  have h2 : fneg (E * 4503599627370496 + u) = false := by unfold fneg; rw [Nat.div_eq_of_lt (by omega)]; rfl
  rw [h1, h2]
  unfold fmag fpl
  rw [if_neg (by omega), if_neg (by omega), show (E * 4503599627370496 + u) % 4503599627370496 = u by omega, show (E * 4503599627370496 + u) / 4503599627370496 = E by omega]
  congr 1
  omega

theorem read_one : Ieee.double.read 4607182418800017408 = .number false 4503599627370496 (-52) := by
  have := read_norm 1023 0 (by omega) (by omega) (by omega)
  simpa using this

theorem mul_one (E u : Nat) (hE : 1 ≤ E) (hE2 : E ≤ 2046) (hu : u < 4503599627370496) : Ieee.double.mul 4607182418800017408 (E * 4503599627370496 + u) = some (E * 4503599627370496 + u) := by
  unfold Ieee.Format.mul
  rw [read_one, read_norm E u hE hE2 hu]
  unfold Ieee.Datum.product
  simp only [Option.map_some, Ieee.Format.write, Bool.xor_false]
  congr 1
  have h := nearest_norm (4503599627370496 + u) 52 (-52 + (-1075 + (E : Int))) (by omega) (by omega) (by omega) (by omega)
  rw [show (4503599627370496 : Nat) * (4503599627370496 + u) = (4503599627370496 + u) * 2 ^ 52 by rw [Nat.mul_comm], h]
  omega

theorem mul_norm (E u : Nat) (r L : Nat) (hL : L < 52) (hE : E = L + 2) (hu : 4503599627370496 + u = r * 2 ^ (52 - L)) (hr : r < 4503599627370496) (hu2 : u < 4503599627370496) : Ieee.double.mul 4368491638549381120 (E * 4503599627370496 + u) = some r := by
  have h0 : Ieee.double.read 4368491638549381120 = .number false 4503599627370496 (-105) := by
    have := read_norm 970 0 (by omega) (by omega) (by omega)
    simpa using this
  unfold Ieee.Format.mul
  rw [h0, read_norm E u (by omega) (by omega) hu2]
  unfold Ieee.Datum.product
  simp only [Option.map_some, Ieee.Format.write, Bool.xor_false]
  congr 1
  have e1 : 4503599627370496 * (4503599627370496 + u) = r * 2 ^ (104 - L) := by
    rw [hu, show (4503599627370496 : Nat) = 2 ^ 52 by decide, ← Nat.mul_assoc, Nat.mul_comm (2 ^ 52) r, Nat.mul_assoc, ← Nat.pow_add]
    congr 2; omega
  rw [e1, show (-105 + (-1075 + (E : Int)) : Int) = -1074 - ((104 - L : Nat) : Int) by omega]
  exact nearest_den r (104 - L) hr

/-- A float below the normal ones, 2^52 times. -/
theorem mul_up (r L : Nat) (h0 : r ≠ 0) (h : r < 4503599627370496) (hL : Nat.log2 r = L) : Ieee.double.mul r 4841369599423283200 = some (L * 4503599627370496 + r * 2 ^ (52 - L)) := by
  have h1 : Ieee.double.read 4841369599423283200 = .number false 4503599627370496 0 := by
    have := read_norm 1075 0 (by omega) (by omega) (by omega)
    simpa using this
  have hf : Fin64 r := by unfold Fin64 frung; omega
  have h2 : Ieee.double.read r = .number false r (-1074) := by
    rw [read_fin hf]
    have e1 : frung r = r := Nat.mod_eq_of_lt (by omega)
    have e2 : fneg r = false := by unfold fneg; rw [Nat.div_eq_of_lt (by omega)]; rfl
    rw [e1, e2]
    unfold fmag fpl
    rw [if_pos h, if_pos h]
  have a1 := Nat.log2_self_le h0
  have a2 : r < 2 ^ (Nat.log2 r + 1) := Nat.lt_log2_self
  have a3 : Nat.log2 r < 52 := (Nat.log2_lt h0).2 h
  rw [hL] at a1 a2 a3
  have b1 : 4503599627370496 ≤ r * 2 ^ (52 - L) := by
    have := Nat.mul_le_mul_right (2 ^ (52 - L)) a1
    rw [← Nat.pow_add, show L + (52 - L) = 52 by omega] at this
    exact this
  have b2 : r * 2 ^ (52 - L) < 9007199254740992 := by
    have := Nat.mul_lt_mul_of_pos_right a2 (Nat.two_pow_pos (52 - L))
    rw [← Nat.pow_add, show L + 1 + (52 - L) = 53 by omega] at this
    exact this
  unfold Ieee.Format.mul
  rw [h1, h2]
  unfold Ieee.Datum.product
  simp only [Option.map_some, Ieee.Format.write, Bool.xor_false]
  congr 1
  have h3 := nearest_norm (r * 2 ^ (52 - L)) L (-1074 + 0) b1 b2 (by omega) (by omega)
  rw [Nat.mul_assoc, ← Nat.pow_add, show 52 - L + L = 52 by omega] at h3
  rw [show r * 4503599627370496 = r * 2 ^ 52 from rfl, h3]
  omega

end Go.Proofs.Ytghchejehlljkaa

/- Plain facts: how far a number's bits reach. -/
namespace Go.Proofs.Ytghchejehlljkaa

/-- In magnitude below 2^h, and a multiple of 2^l. -/
def Bd (h l : Int) (q : Rat) : Prop := q < p2 h ∧ -p2 h < q ∧ ∃ n : Int, q = (n : Rat) * p2 l

theorem bd_le {x P Q : Rat} (a : x < P) (b : -P < x) (h : P ≤ Q) : x < Q ∧ -Q < x := ⟨by grind, by grind⟩

theorem bd_nn {x y P : Rat} (h0 : 0 ≤ x) (h1 : x < y) (h2 : y ≤ P) : x < P ∧ -P < x := ⟨by grind, by grind⟩

theorem Bd.may {h l : Int} {q : Rat} (hb : Bd h l q) (h1 : h ≤ 65537) (h2 : -65536 ≤ l) : May q := by
  obtain ⟨a, b, n, c⟩ := hb
  have hh := bd_le a b (p2_mono h1)
  refine ⟨hh.1, hh.2, n * ((2 ^ (l + 65536).toNat : Nat) : Int), ?_⟩
  have e : p2 l = ((2 ^ (l + 65536).toNat : Nat) : Rat) * p2 (-65536) := by
    rw [← p2_nat, ← p2_add]; congr 1; omega
  rw [c, e, Rat.intCast_mul]
  have : (((2 ^ (l + 65536).toNat : Nat) : Int) : Rat) = ((2 ^ (l + 65536).toNat : Nat) : Rat) := rfl
  rw [this]; grind

theorem Bd.mono {h l h' l' : Int} {q : Rat} (hb : Bd h l q) (h1 : h ≤ h') (h2 : l' ≤ l) : Bd h' l' q := by
  obtain ⟨a, b, n, c⟩ := hb
  have := p2_mono h1
  refine ⟨by grind, by grind, n * ((2 ^ (l - l').toNat : Nat) : Int), ?_⟩
  have e : p2 l = ((2 ^ (l - l').toNat : Nat) : Rat) * p2 l' := by
    rw [← p2_nat, ← p2_add]; congr 1; omega
  rw [c, e, Rat.intCast_mul]
  have : (((2 ^ (l - l').toNat : Nat) : Int) : Rat) = ((2 ^ (l - l').toNat : Nat) : Rat) := rfl
  rw [this]; grind

theorem Bd.neg {h l : Int} {q : Rat} (hb : Bd h l q) : Bd h l (-q) := by
  obtain ⟨a, b, n, c⟩ := hb
  refine ⟨by grind, by grind, -n, ?_⟩
  rw [c, Rat.intCast_neg]; grind

theorem Bd.add {h l : Int} {p q : Rat} (h1 : Bd h l p) (h2 : Bd h l q) : Bd (h + 1) l (p + q) := by
  obtain ⟨a, b, n, c⟩ := h1
  obtain ⟨a', b', n', c'⟩ := h2
  have e : p2 (h + 1) = 2 * p2 h := by rw [p2_add, p2_one]; grind
  refine ⟨by grind, by grind, n + n', ?_⟩
  rw [c, c', Rat.intCast_add]; grind

theorem Bd.sub {h l : Int} {p q : Rat} (h1 : Bd h l p) (h2 : Bd h l q) : Bd (h + 1) l (p - q) := by
  have := h1.add h2.neg
  rwa [show p + -q = p - q by grind] at this

theorem abs_mul_lt {a b c d : Rat} (h1 : -b < a) (h2 : a < b) (h3 : -d < c) (h4 : c < d) : -(b * d) < a * c ∧ a * c < b * d := by
  have hb : 0 < b := by grind
  have hd : 0 < d := by grind
  have e1 : 0 < (b - a) * (d + c) := Rat.mul_pos (by grind) (by grind)
  have e2 : 0 < (b + a) * (d - c) := Rat.mul_pos (by grind) (by grind)
  have e3 : 0 < (b - a) * (d - c) := Rat.mul_pos (by grind) (by grind)
  have e4 : 0 < (b + a) * (d + c) := Rat.mul_pos (by grind) (by grind)
  constructor <;> grind

theorem Bd.mul {h l h' l' : Int} {p q : Rat} (h1 : Bd h l p) (h2 : Bd h' l' q) : Bd (h + h') (l + l') (p * q) := by
  obtain ⟨a, b, n, c⟩ := h1
  obtain ⟨a', b', n', c'⟩ := h2
  have := abs_mul_lt b a b' a'
  rw [Bd, p2_add, p2_add]
  refine ⟨this.2, this.1, n * n', ?_⟩
  rw [c, c', Rat.intCast_mul]; grind

theorem Bd.shift {h l : Int} {p : Rat} (h1 : Bd h l p) (k : Int) : Bd (h + k) (l + k) (p * p2 k) := by
  obtain ⟨a, b, n, c⟩ := h1
  have hp := p2_pos k
  have e1 := Rat.mul_lt_mul_of_pos_right a hp
  have e2 := Rat.mul_lt_mul_of_pos_right b hp
  rw [Bd, p2_add, p2_add]
  refine ⟨e1, by grind, n, ?_⟩
  rw [c]; grind

theorem neg_lt_zero {P : Rat} (h : 0 < P) : -P < 0 := by grind

theorem bd_zero (h l : Int) : Bd h l 0 := ⟨p2_pos h, neg_lt_zero (p2_pos h), 0, by simp⟩

theorem fval_bd {b : Nat} (h : Fin64 b) : Bd 1024 (-1074) (fval b) := by
  have hr : frung b < 9218868437227405312 := h
  have h1 : fmag (frung b) < 2 ^ 53 := fmag_lt _
  have h2 : fpl (frung b) ≤ 971 := by unfold fpl; split <;> omega
  have h3 : -1074 ≤ fpl (frung b) := by unfold fpl; split <;> omega
  have hp := p2_pos (fpl (frung b))
  have h4 : ((fmag (frung b) : Nat) : Rat) < ((2 ^ 53 : Nat) : Rat) := Rat.natCast_lt_natCast.2 h1
  rw [← p2_nat] at h4
  have h5 := Rat.mul_lt_mul_of_pos_right h4 hp
  rw [← p2_add] at h5
  have h6 : p2 (((53 : Nat) : Int) + fpl (frung b)) ≤ p2 1024 := p2_mono (by omega)
  have h7 : (0 : Rat) ≤ (fmag (frung b) : Nat) * p2 (fpl (frung b)) := Rat.mul_nonneg Rat.natCast_nonneg (Rat.le_of_lt hp)
  have base : Bd 1024 (-1074) ((fmag (frung b) : Nat) * p2 (fpl (frung b))) := by
    have hh := bd_nn h7 h5 h6
    refine ⟨hh.1, hh.2, ((fmag (frung b) * 2 ^ (fpl (frung b) + 1074).toNat : Nat) : Int), ?_⟩
    have e : (((fmag (frung b) * 2 ^ (fpl (frung b) + 1074).toNat : Nat) : Int) : Rat) = ((fmag (frung b) * 2 ^ (fpl (frung b) + 1074).toNat : Nat) : Rat) := rfl
    rw [e, nat_mul_p2, Rat.mul_assoc, ← p2_add, show (((fpl (frung b) + 1074).toNat : Nat) : Int) + -1074 = fpl (frung b) by omega]
  unfold fval sgn1
  split
  · have := base.neg
    rwa [show -1 * ((fmag (frung b) : Nat) * p2 (fpl (frung b)) : Rat) = -((fmag (frung b) : Nat) * p2 (fpl (frung b))) by grind]
  · rwa [Rat.one_mul]

theorem int_bd (n : Int) (h1 : -9223372036854775808 ≤ n) (h2 : n ≤ 9223372036854775807) : Bd 64 0 (n : Rat) := by
  have e : p2 64 = ((18446744073709551616 : Int) : Rat) := by
    rw [show (64 : Int) = ((64 : Nat) : Int) from rfl, p2_nat]; rfl
  refine ⟨?_, ?_, n, by rw [p2_zero, Rat.mul_one]⟩
  · rw [e]; exact Rat.intCast_lt_intCast.2 (by omega)
  · rw [e, ← Rat.intCast_neg]; exact Rat.intCast_lt_intCast.2 (by omega)

end Go.Proofs.Ytghchejehlljkaa

/- Rounding to the nearest, in plain numbers: what is exact. -/
namespace Go.Proofs.Ytghchejehlljkaa

/-- The units. -/
def U (T : Nat) : Rat := p2 ((T : Int) - 1074)
theorem U_pos (T : Nat) : 0 < U T := p2_pos _
theorem U_succ (T : Nat) : U (T + 1) = 2 * U T := by
  unfold U
  rw [show ((T + 1 : Nat) : Int) - 1074 = 1 + ((T : Int) - 1074) by omega, p2_add, p2_one]
theorem U_add (S j : Nat) : U (S + j) = ((2 ^ j : Nat) : Rat) * U S := by
  unfold U
  rw [show ((S + j : Nat) : Int) - 1074 = (j : Nat) + ((S : Int) - 1074) by omega, p2_add, p2_nat]
theorem U_mono {S T : Nat} (h : S ≤ T) : U S ≤ U T := p2_mono (by omega)
theorem U_lt {S T : Nat} (h : S < T) : 2 * U S ≤ U T := by rw [← U_succ]; exact U_mono h
theorem U_lt2 {S T : Nat} (h : S + 2 ≤ T) : 4 * U S ≤ U T := by
  have h1 := U_mono h
  have h2 := U_succ (S + 1)
  have h3 := U_succ S
  grind

/-- A multiple of u. -/
def M (u x : Rat) : Prop := ∃ k : Int, x = (k : Rat) * u
theorem M.add {u x y : Rat} (h1 : M u x) (h2 : M u y) : M u (x + y) := by
  obtain ⟨j, rfl⟩ := h1
  obtain ⟨k, rfl⟩ := h2
  exact ⟨j + k, by rw [Rat.intCast_add]; grind⟩
theorem M.neg {u x : Rat} (h1 : M u x) : M u (-x) := by
  obtain ⟨j, rfl⟩ := h1
  exact ⟨-j, by rw [Rat.intCast_neg]; grind⟩
theorem M.sub {u x y : Rat} (h1 : M u x) (h2 : M u y) : M u (x - y) := by
  have := h1.add h2.neg
  rwa [show x + -y = x - y by grind] at this
theorem M.down {S T : Nat} {x : Rat} (h : S ≤ T) (h1 : M (U T) x) : M (U S) x := by
  obtain ⟨k, rfl⟩ := h1
  obtain ⟨j, rfl⟩ : ∃ j, T = S + j := ⟨T - S, by omega⟩
  exact ⟨k * ((2 ^ j : Nat) : Int), by rw [U_add, Rat.intCast_mul, Rat.mul_assoc]; rfl⟩

theorem one_rat : ((1 : Int) : Rat) = 1 := rfl
theorem cast_lt {a b : Int} {u : Rat} (hu : 0 < u) (h : (a : Rat) * u < (b : Rat) * u) : a < b := by
  rcases Int.lt_or_le a b with h1 | h1
  · exact h1
  · have h2 : (b : Rat) ≤ (a : Rat) := Rat.intCast_le_intCast.2 h1
    have h3 := Rat.mul_le_mul_of_nonneg_right h2 (Rat.le_of_lt hu)
    grind
theorem cast_le {a b : Int} {u : Rat} (hu : 0 < u) (h : (a : Rat) * u ≤ (b : Rat) * u) : a ≤ b := by
  rcases Int.lt_or_le b a with h1 | h1
  · have h2 : (b : Rat) < (a : Rat) := Rat.intCast_lt_intCast.2 h1
    have h3 := Rat.mul_lt_mul_of_pos_right h2 hu
    grind
  · exact h1

/-- Of two multiples that are less than a unit apart. -/
theorem M.eq {u x y : Rat} (hu : 0 < u) (h1 : M u x) (h2 : M u y) (a : x - y < u) (b : y - x < u) : x = y := by
  obtain ⟨j, rfl⟩ := h1
  obtain ⟨k, rfl⟩ := h2
  have e1 : ((j - k : Int) : Rat) * u < ((1 : Int) : Rat) * u := by rw [Rat.intCast_sub, one_rat]; grind
  have e2 : ((k - j : Int) : Rat) * u < ((1 : Int) : Rat) * u := by rw [Rat.intCast_sub, one_rat]; grind
  have f1 := cast_lt hu e1
  have f2 := cast_lt hu e2
  have : j = k := by omega
  rw [this]

/-- What may be: at most 2^53 units. -/
def F (z : Rat) : Prop := ∃ (S : Nat) (m : Int), z = (m : Rat) * U S ∧ -9007199254740992 ≤ m ∧ m ≤ 9007199254740992
theorem F.neg {z : Rat} (h : F z) : F (-z) := by
  obtain ⟨S, m, rfl, h1, h2⟩ := h
  exact ⟨S, -m, by rw [Rat.intCast_neg]; grind, by omega, by omega⟩
theorem F_zero : F 0 := ⟨0, 0, by rw [show ((0 : Int) : Rat) = 0 from rfl]; grind, by omega, by omega⟩

/-- A multiple of a unit that is not too great may be. -/
theorem M.small {S : Nat} {z : Rat} (n : Int) (hn : n ≤ 9007199254740992) (h : M (U S) z) (a : z < ((n + 1 : Int) : Rat) * U S) (b : -z < ((n + 1 : Int) : Rat) * U S) : F z := by
  obtain ⟨k, rfl⟩ := h
  have hu := U_pos S
  have e1 := cast_lt hu a
  have e2 : ((-k : Int) : Rat) * U S < ((n + 1 : Int) : Rat) * U S := by rw [Rat.intCast_neg]; grind
  have e2 := cast_lt hu e2
  exact ⟨S, k, rfl, by omega, by omega⟩

/-- x is q, rounded: in units of U T. -/
structure Rnd (q x : Rat) (T : Nat) (k : Int) : Prop where
  hx : x = (k : Rat) * U T
  h1 : 2 * (x - q) ≤ U T
  h2 : -U T ≤ 2 * (x - q)
  h3 : T = 0 ∨ 4503599627370496 * U T ≤ q ∨ 4503599627370496 * U T ≤ -q
  h4 : q < 9007199254740992 * U T
  h5 : -q < 9007199254740992 * U T
  k1 : -9007199254740992 ≤ k
  k2 : k ≤ 9007199254740992

theorem Rnd.m {q x : Rat} {T : Nat} {k : Int} (R : Rnd q x T k) : M (U T) x := ⟨k, R.hx⟩
theorem Rnd.f {q x : Rat} {T : Nat} {k : Int} (R : Rnd q x T k) : F x := ⟨T, k, R.hx, R.k1, R.k2⟩

theorem Rnd.mult {q x : Rat} {T : Nat} {k : Int} (R : Rnd q x T k) (h : M (U T) q) : x = q := by
  have hu := U_pos T
  have h1 := R.h1
  have h2 := R.h2
  exact M.eq hu R.m h (by grind) (by grind)

theorem F.abs {z : Rat} {S : Nat} {m : Int} (h : z = (m : Rat) * U S) (h1 : -9007199254740992 ≤ m) (h2 : m ≤ 9007199254740992) : z ≤ 9007199254740992 * U S ∧ -z ≤ 9007199254740992 * U S := by
  have hu := U_pos S
  have a1 := Rat.mul_le_mul_of_nonneg_right (Rat.intCast_le_intCast.2 h2) (Rat.le_of_lt hu)
  have a2 := Rat.mul_le_mul_of_nonneg_right (Rat.intCast_le_intCast.2 h1) (Rat.le_of_lt hu)
  have e1 : ((9007199254740992 : Int) : Rat) = 9007199254740992 := rfl
  have e2 : ((-9007199254740992 : Int) : Rat) = -9007199254740992 := rfl
  rw [e1] at a1
  rw [e2] at a2
  rw [h]
  constructor <;> grind

/-- What may be is not rounded. -/
theorem Rnd.exact {q x : Rat} {T : Nat} {k : Int} (R : Rnd q x T k) (h : F q) : x = q := by
  obtain ⟨S, m, hq, h1, h2⟩ := h
  have hu := U_pos S
  rcases Nat.lt_or_ge S T with hs | hs
  · have hb := F.abs hq h1 h2
    have h3 := R.h3
    rcases Nat.lt_or_ge T (S + 2) with ht | ht
    · have e : T = S + 1 := by omega
      subst e
      have eu := U_succ S
      apply R.mult
      have hm : m = 9007199254740992 ∨ m = -9007199254740992 := by
        rcases h3 with h3 | h3 | h3
        · omega
        · left
          have : ((9007199254740992 : Int) : Rat) * U S ≤ (m : Rat) * U S := by
            rw [← hq, show ((9007199254740992 : Int) : Rat) = 9007199254740992 from rfl]; grind
          have := cast_le hu this
          omega
        · right
          have : ((9007199254740992 : Int) : Rat) * U S ≤ ((-m : Int) : Rat) * U S := by
            rw [Rat.intCast_neg, show ((9007199254740992 : Int) : Rat) = 9007199254740992 from rfl]; grind
          have := cast_le hu this
          omega
      rcases hm with rfl | rfl
      · exact ⟨4503599627370496, by rw [hq, eu, show ((9007199254740992 : Int) : Rat) = 9007199254740992 from rfl, show ((4503599627370496 : Int) : Rat) = 4503599627370496 from rfl]; grind⟩
      · exact ⟨-4503599627370496, by rw [hq, eu, show ((-9007199254740992 : Int) : Rat) = -9007199254740992 from rfl, show ((-4503599627370496 : Int) : Rat) = -4503599627370496 from rfl]; grind⟩
    · have := U_lt2 ht
      exfalso
      rcases h3 with h3 | h3 | h3
      · omega
      · grind
      · grind
  · exact R.mult (M.down hs ⟨m, hq⟩)

/-- Nothing that may be is nearer. -/
theorem Rnd.best {q x y c : Rat} {T : Nat} {k : Int} (R : Rnd q x T k) (h : F y) (c1 : -c ≤ y - q) (c2 : y - q ≤ c) : -c ≤ x - q ∧ x - q ≤ c := by
  have hu := U_pos T
  have r1 := R.h1
  have r2 := R.h2
  have key : ∀ {z d : Rat}, M (U T) z → -d ≤ z - q → z - q ≤ d → -d ≤ x - q ∧ x - q ≤ d := by
    intro z d hz d1 d2
    by_cases e : x - z < U T ∧ z - x < U T
    · have := M.eq hu R.m hz e.1 e.2
      rw [this]; exact ⟨d1, d2⟩
    · constructor <;> grind
  obtain ⟨S, m, hy, h1, h2⟩ := h
  rcases Nat.lt_or_ge S T with hs | hs
  · have hb := F.abs hy h1 h2
    have hl := U_lt hs
    rcases R.h3 with h3 | h3 | h3
    · omega
    · have := key (z := 4503599627370496 * U T) (d := q - 4503599627370496 * U T) ⟨4503599627370496, rfl⟩ (by grind) (by grind)
      constructor <;> grind
    · have := key (z := -4503599627370496 * U T) (d := -q - 4503599627370496 * U T) ⟨-4503599627370496, rfl⟩ (by grind) (by grind)
      constructor <;> grind
  · exact key (M.down hs ⟨m, hy⟩) c1 c2

end Go.Proofs.Ytghchejehlljkaa

/- Two floats added: what is rounded off is told exactly (Dekker, Knuth). -/
namespace Go.Proofs.Ytghchejehlljkaa

/-- A float in its own form: fewer than 2^53 units, and not fewer than 2^52 but at the least unit. -/
structure FC (z : Rat) (S : Nat) (m : Int) : Prop where
  hz : z = (m : Rat) * U S
  m1 : -9007199254740992 < m
  m2 : m < 9007199254740992
  h3 : S = 0 ∨ 4503599627370496 ≤ m ∨ m ≤ -4503599627370496
theorem FC.f {z : Rat} {S : Nat} {m : Int} (h : FC z S m) : F z := ⟨S, m, h.hz, by have := h.m1; omega, by have := h.m2; omega⟩
theorem FC.neg {z : Rat} {S : Nat} {m : Int} (h : FC z S m) : FC (-z) S (-m) :=
  ⟨by rw [h.hz, Rat.intCast_neg]; grind, by have := h.m2; omega, by have := h.m1; omega, by have := h.h3; omega⟩
theorem Rnd.neg {q x : Rat} {T : Nat} {k : Int} (R : Rnd q x T k) : Rnd (-q) (-x) T (-k) := by
  obtain ⟨hx, h1, h2, h3, h4, h5, k1, k2⟩ := R
  exact ⟨by rw [hx, Rat.intCast_neg]; grind, by grind, by grind, by rcases h3 with h | h | h; exact Or.inl h; exact Or.inr (Or.inr (by grind)); exact Or.inr (Or.inl (by grind)), by grind, by grind, by omega, by omega⟩
theorem FC.mul {z : Rat} {S : Nat} {m : Int} (h : FC z S m) : M (U S) z := ⟨m, h.hz⟩
/-- Its size. -/
theorem FC.size {z : Rat} {S : Nat} {m : Int} (h : FC z S m) : z ≤ 9007199254740991 * U S ∧ -z ≤ 9007199254740991 * U S := by
  have hu := U_pos S
  have m1 := h.m1
  have m2 := h.m2
  have a1 := Rat.mul_le_mul_of_nonneg_right (Rat.intCast_le_intCast.2 (by omega : m ≤ 9007199254740991)) (Rat.le_of_lt hu)
  have a2 := Rat.mul_le_mul_of_nonneg_right (Rat.intCast_le_intCast.2 (by omega : -9007199254740991 ≤ m)) (Rat.le_of_lt hu)
  rw [show ((9007199254740991 : Int) : Rat) = 9007199254740991 from rfl] at a1
  rw [show ((-9007199254740991 : Int) : Rat) = -9007199254740991 from rfl] at a2
  rw [h.hz]
  constructor <;> grind
theorem FC.least {z : Rat} {S : Nat} {m : Int} (h : FC z S m) (h0 : S ≠ 0) : 4503599627370496 * U S ≤ z ∨ 4503599627370496 * U S ≤ -z := by
  have hu := U_pos S
  rcases h.h3 with e | e | e
  · exact absurd e h0
  · left
    have := Rat.mul_le_mul_of_nonneg_right (Rat.intCast_le_intCast.2 e) (Rat.le_of_lt hu)
    rw [show ((4503599627370496 : Int) : Rat) = 4503599627370496 from rfl] at this
    rw [h.hz]; exact this
  · right
    have := Rat.mul_le_mul_of_nonneg_right (Rat.intCast_le_intCast.2 e) (Rat.le_of_lt hu)
    rw [show ((-4503599627370496 : Int) : Rat) = -4503599627370496 from rfl] at this
    rw [h.hz]; grind

/-- What is rounded off of a sum may be (one way round). -/
theorem err_le {a b x : Rat} {T : Nat} {k : Int} {S1 S2 : Nat} {A B : Int} (R : Rnd (a + b) x T k) (ca : FC a S1 A) (cb : FC b S2 B) (h : S1 ≤ S2) : F (a + b - x) := by
  have hb : M (U S1) b := M.down h cb.mul
  rcases Nat.lt_or_ge T S1 with ht | ht
  · have := R.mult (M.down (Nat.le_of_lt ht) (ca.mul.add hb))
    rw [this, show a + b - (a + b) = (0 : Rat) by grind]; exact F_zero
  · have hm : M (U S1) (a + b - x) := (ca.mul.add hb).sub (M.down ht R.m)
    have hs := ca.size
    have hu := U_pos S1
    have hbest := R.best (c := 9007199254740991 * U S1) cb.f (by grind) (by grind)
    refine M.small 9007199254740991 (by omega) hm ?_ ?_
    · rw [show ((9007199254740991 + 1 : Int) : Rat) = 9007199254740992 from rfl]; grind
    · rw [show ((9007199254740991 + 1 : Int) : Rat) = 9007199254740992 from rfl]; grind

theorem err_f {a b x : Rat} {T : Nat} {k : Int} {S1 S2 : Nat} {A B : Int} (R : Rnd (a + b) x T k) (ca : FC a S1 A) (cb : FC b S2 B) : F (a + b - x) := by
  rcases Nat.le_total S1 S2 with h | h
  · exact err_le R ca cb h
  · have e : a + b = b + a := by grind
    rw [e] at R ⊢
    exact err_le R cb ca h

/-- The greater one taken off the sum. -/
theorem fast_pos {a b x : Rat} {T : Nat} {k : Int} {S1 S2 : Nat} {A B : Int} (R : Rnd (a + b) x T k) (ca : FC a S1 A) (cb : FC b S2 B) (h1 : b ≤ a) (h2 : -b ≤ a) : F (x - a) := by
  have hu := U_pos S1
  have hU := U_pos T
  have r1 := R.h1
  have r2 := R.h2
  have hs := ca.size
  rcases Nat.lt_or_ge T S1 with ht | ht
  · have hl := ca.least (by omega)
    have hl' := U_lt ht
    rcases Nat.lt_or_ge S2 T with h3 | h3
    · have hm : M (U T) (x - a) := R.m.sub (M.down (Nat.le_of_lt ht) ca.mul)
      have hbs := cb.size
      have hbl := U_lt h3
      refine M.small 4503599627370496 (by omega) hm ?_ ?_
      · rw [show ((4503599627370496 + 1 : Int) : Rat) = 4503599627370497 from rfl]; grind
      · rw [show ((4503599627370496 + 1 : Int) : Rat) = 4503599627370497 from rfl]; grind
    · have := R.mult ((M.down (Nat.le_of_lt ht) ca.mul).add (M.down h3 cb.mul))
      rw [this, show a + b - a = b by grind]; exact cb.f
  · have hm : M (U S1) (x - a) := (M.down ht R.m).sub ca.mul
    rcases Nat.lt_or_ge T (S1 + 2) with h3 | h3
    · have hT : U T = U S1 ∨ U T = 2 * U S1 := by
        rcases (by omega : T = S1 ∨ T = S1 + 1) with rfl | rfl
        · exact Or.inl rfl
        · exact Or.inr (U_succ S1)
      refine M.small 9007199254740992 (by omega) hm ?_ ?_
      · rw [show ((9007199254740992 + 1 : Int) : Rat) = 9007199254740993 from rfl]; grind
      · rw [show ((9007199254740992 + 1 : Int) : Rat) = 9007199254740993 from rfl]; grind
    · have h4 := U_lt2 h3
      exfalso
      rcases R.h3 with h5 | h5 | h5
      · omega
      · grind
      · grind

theorem fast {a b x : Rat} {T : Nat} {k : Int} {S1 S2 : Nat} {A B : Int} (R : Rnd (a + b) x T k) (ca : FC a S1 A) (cb : FC b S2 B) (h : (0 ≤ a ∧ b ≤ a ∧ -b ≤ a) ∨ (a ≤ 0 ∧ b ≤ -a ∧ -b ≤ -a)) : F (x - a) := by
  rcases h with ⟨_, h1, h2⟩ | ⟨_, h1, h2⟩
  · exact fast_pos R ca cb h1 h2
  · have R' := R.neg
    rw [show -(a + b) = -a + -b by grind] at R'
    have := (fast_pos R' ca.neg cb.neg (by grind) (by grind)).neg
    rwa [show -(-x - -a) = x - a by grind] at this

/-- What b gave to the sum, taken off b. -/
theorem left_f {a b x fb : Rat} {T T' : Nat} {k k' : Int} {S2 : Nat} {B : Int} (R : Rnd (a + b) x T k) (R' : Rnd (x - a) fb T' k') (cb : FC b S2 B) (h : (a ≤ b ∧ -a ≤ b) ∨ (a ≤ -b ∧ -a ≤ -b)) : F (b - fb) := by
  have hv := U_pos S2
  have hU := U_pos T
  have hU' := U_pos T'
  have r1 := R.h1
  have r2 := R.h2
  have hs := cb.size
  have hbest := R'.best (y := b) (c := U T / 2) cb.f (by grind) (by grind)
  have hUv : U T ≤ 2 * U S2 := by
    rcases Nat.lt_or_ge T (S2 + 2) with h3 | h3
    · rw [← U_succ]; exact U_mono (by omega)
    · have h4 := U_lt2 h3
      exfalso
      rcases R.h3 with h5 | h5 | h5
      · omega
      · grind
      · grind
  rcases Nat.lt_or_ge T' S2 with ht | ht
  · have hm : M (U T') (b - fb) := (M.down (Nat.le_of_lt ht) cb.mul).sub R'.m
    have hl := cb.least (by omega)
    have h4 := R'.h4
    have h5 := R'.h5
    have hv2 : U S2 ≤ 2 * U T' := by
      rcases Nat.lt_or_ge S2 (T' + 2) with h6 | h6
      · rw [← U_succ]; exact U_mono (by omega)
      · have h7 := U_lt2 h6
        exfalso
        rcases hl with h8 | h8
        · grind
        · grind
    refine M.small 4 (by omega) hm ?_ ?_
    · rw [show ((4 + 1 : Int) : Rat) = 5 from rfl]; grind
    · rw [show ((4 + 1 : Int) : Rat) = 5 from rfl]; grind
  · have hm : M (U S2) (b - fb) := cb.mul.sub (M.down ht R'.m)
    refine M.small 2 (by omega) hm ?_ ?_
    · rw [show ((2 + 1 : Int) : Rat) = 3 from rfl]; grind
    · rw [show ((2 + 1 : Int) : Rat) = 3 from rfl]; grind

/-- Two floats that nearly cancel. -/
theorem near_cancel {a b : Rat} {S1 S2 : Nat} {A B : Int} (ca : FC a S1 A) (cb : FC b S2 B) (h : (0 ≤ a ∧ b ≤ -a ∧ -b ≤ 2 * a) ∨ (a ≤ 0 ∧ -a ≤ b ∧ b ≤ -(2 * a))) : F (a + b) := by
  have hu := U_pos S1
  have hs := ca.size
  have hS : S1 ≤ S2 := by
    rcases Nat.lt_or_ge S2 S1 with h3 | h3
    · exfalso
      have h4 := ca.least (by omega)
      have h5 := cb.size
      have h6 := U_lt h3
      have := U_pos S2
      rcases h with h | h <;> rcases h4 with h4 | h4 <;> grind
    · exact h3
  refine M.small 9007199254740991 (by omega) (ca.mul.add (M.down hS cb.mul)) ?_ ?_
  · rw [show ((9007199254740991 + 1 : Int) : Rat) = 9007199254740992 from rfl]; rcases h with h | h <;> grind
  · rw [show ((9007199254740991 + 1 : Int) : Rat) = 9007199254740992 from rfl]; rcases h with h | h <;> grind

/-- x is q, rounded. -/
def RN (q x : Rat) : Prop := ∃ T k, Rnd q x T k
theorem RN.exact {q x : Rat} (h : RN q x) (hf : F q) : x = q := by obtain ⟨_, _, R⟩ := h; exact R.exact hf

theorem twoSum_exact {a b x fb fa lb la y : Rat} (ca : ∃ S m, FC a S m) (cb : ∃ S m, FC b S m) (cx : ∃ S m, FC x S m) (R1 : RN (a + b) x) (R2 : RN (x - a) fb) (R3 : RN (x - fb) fa) (R4 : RN (b - fb) lb) (R5 : RN (a - fa) la) (R6 : RN (la + lb) y) : x + y = a + b := by
  obtain ⟨S1, A, ca⟩ := ca
  obtain ⟨S2, B, cb⟩ := cb
  obtain ⟨S3, X, cx⟩ := cx
  obtain ⟨T, k, R⟩ := R1
  have he := err_f R ca cb
  -- all is told where the last two steps are exact
  have fin : la = a - fa → lb = b - fb → fa + fb = x → x + y = a + b := by
    intro e1 e2 e3
    have e : la + lb = a + b - x := by rw [e1, e2]; grind
    have := R6.exact (by rw [e]; exact he)
    grind
  by_cases hab : (0 ≤ a ∧ b ≤ a ∧ -b ≤ a) ∨ (a ≤ 0 ∧ b ≤ -a ∧ -b ≤ -a)
  · have e1 := R2.exact (fast R ca cb hab)
    have e2 := R3.exact (by rw [e1, show x - (x - a) = a by grind]; exact ca.f)
    have e3 := R4.exact (by rw [e1, show b - (x - a) = a + b - x by grind]; exact he)
    have e4 := R5.exact (by rw [e2, e1, show a - (x - (x - a)) = (0 : Rat) by grind]; exact F_zero)
    exact fin e4 e3 (by grind)
  · by_cases hax : (0 ≤ x ∧ a ≤ x ∧ -a ≤ x) ∨ (x ≤ 0 ∧ a ≤ -x ∧ -a ≤ -x)
    · obtain ⟨T', k', R'⟩ := R2
      have R2' : Rnd (x + -a) fb T' k' := by rwa [show x - a = x + -a by grind] at R'
      have hf := (fast R2' cx ca.neg (by rcases hax with h | h; exact Or.inl ⟨h.1, by grind, by grind⟩; exact Or.inr ⟨h.1, by grind, by grind⟩)).neg
      have e2 := R3.exact (by rwa [show -(fb - x) = x - fb by grind] at hf)
      have e4 := R5.exact (by
        have := (err_f R2' cx ca.neg).neg
        rwa [show -(x + -a - fb) = a - fa by grind] at this)
      have e3 := R4.exact (left_f R R' cb (by grind))
      exact fin e4 e3 (by grind)
    · have hc : F (a + b) := by
        have hx2 : (a + b < a ∨ a + b < -a) ∧ (-(a + b) < a ∨ -(a + b) < -a) := by
          have b1 := R.best (y := a) (c := b) ca.f
          have b2 := R.best (y := -a) (c := a + a + b) ca.neg.f
          have b3 := R.best (y := a) (c := -b) ca.f
          have b4 := R.best (y := -a) (c := -(a + a + b)) ca.neg.f
          constructor <;> grind
        exact near_cancel ca cb (by grind)
      have e0 := R.exact hc
      have e1 := R2.exact (by rw [e0, show a + b - a = b by grind]; exact cb.f)
      have e2 := R3.exact (by rw [e1, e0, show a + b - (a + b - a) = a by grind]; exact ca.f)
      have e3 := R4.exact (by rw [e1, e0, show b - (a + b - a) = (0 : Rat) by grind]; exact F_zero)
      have e4 := R5.exact (by rw [e2, e1, e0, show a - (a + b - (a + b - a)) = (0 : Rat) by grind]; exact F_zero)
      exact fin e4 e3 (by grind)

end Go.Proofs.Ytghchejehlljkaa
