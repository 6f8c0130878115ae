/- Own texts, put together: M M2 M3 Wa Wb. -/
import Derived.Laws.BitsAllLaws
import Derived.Test.YtlpnobcapdbfkaaDoorProg
import Derived.WalkKit
import Derived.WalkSpells
import Derived.WalkLawsBesides
import Derived.Deep.RegionHeld3
import Derived.Deep.DrawnRows
namespace Go.Proofs.YtlpnobcapdbfkaaDoor
/- Plain facts on words of 64 bits: the number that a list of words tells, its windows, and how they come of the words. -/
section
def val : List Nat → Nat
 | [] => 0
 | n :: r => n + 18446744073709551616 * val r
def Small (ns : List Nat) : Prop := ∀ n, n ∈ ns → n < 18446744073709551616
theorem small_getD {ns : List Nat} (h : Small ns) (i : Nat) : ns.getD i 0 < 18446744073709551616 := by
 by_cases hi : i < ns.length
 · have : ns.getD i 0 = ns[i] := by simp [List.getD, hi]
   rw [this]; exact h _ (List.getElem_mem hi)
 · simp [List.getD, List.getElem?_eq_none (Nat.le_of_not_lt hi)]
theorem small_drop {ns : List Nat} (h : Small ns) (p : Nat) : Small (ns.drop p) := fun n hn => h n (List.mem_of_mem_drop hn)
theorem val_split (ns : List Nat) : val ns = ns.getD 0 0 + 18446744073709551616 * val (ns.drop 1) := by
 cases ns <;> simp [val]
theorem val_div {ns : List Nat} (h : Small ns) (p : Nat) : val ns / 2 ^ (64 * p) = val (ns.drop p) := by
 induction p generalizing ns with
 | zero => simp
 | succ p ih =>
   have h0 := small_getD h 0
   rw [show 64 * (p + 1) = 64 + 64 * p by omega, Nat.pow_add, ← Nat.div_div_eq_div_mul, val_split ns]
   rw [show (2 : Nat) ^ 64 = 18446744073709551616 from rfl, Nat.add_mul_div_left _ _ (by omega), Nat.div_eq_of_lt h0, Nat.zero_add, ih (small_drop h 1), List.drop_drop, Nat.add_comm]
theorem getD_drop (ns : List Nat) (p i : Nat) : (ns.drop p).getD i 0 = ns.getD (p + i) 0 := by simp [List.getD]
theorem val_two {ns : List Nat} (p : Nat) : ∃ y, val (ns.drop p) = ns.getD p 0 + 18446744073709551616 * (ns.getD (p + 1) 0 + 18446744073709551616 * y) := by
 refine ⟨val (ns.drop (p + 2)), ?_⟩
 rw [val_split (ns.drop p), val_split ((ns.drop p).drop 1), getD_drop, List.drop_drop, List.drop_drop, getD_drop]
 rfl
def win (ns : List Nat) (low at' : Int) : Nat :=
 if at' < low then val ns * 2 ^ (low - at').toNat % 18446744073709551616 else val ns / 2 ^ (at' - low).toNat % 18446744073709551616
theorem mul_pow_mod (x k : Nat) : x * 2 ^ min k 64 % 18446744073709551616 = x * 2 ^ k % 18446744073709551616 := by
 by_cases hk : k ≤ 64
 · rw [Nat.min_eq_left hk]
 · rw [Nat.min_eq_right (by omega)]
   rw [show k = 64 + (k - 64) by omega, Nat.pow_add, ← Nat.mul_assoc]
   rw [show (2 : Nat) ^ 64 = 18446744073709551616 from rfl]
   rw [Nat.mul_mod_left, Nat.mul_right_comm, Nat.mul_mod_left]
theorem win_low_eq (ns : List Nat) (k : Nat) : ns.getD 0 0 * 2 ^ min k 64 % 18446744073709551616 = val ns * 2 ^ k % 18446744073709551616 := by
 rw [mul_pow_mod, val_split ns, Nat.add_mul, Nat.mul_right_comm, Nat.mul_comm 18446744073709551616, Nat.mul_right_comm, Nat.add_mul_mod_self_right]
theorem or_eq (x0 x1 y r : Nat) (hx0 : x0 < 18446744073709551616) (hr : r < 64) :
   (x0 / 2 ^ r) ||| (x1 * 2 ^ (64 - r) % 18446744073709551616) = (x0 + 18446744073709551616 * (x1 + 18446744073709551616 * y)) / 2 ^ r % 18446744073709551616 := by
 have hc : 0 < 2 ^ r := Nat.two_pow_pos r
 have hB : 18446744073709551616 = 2 ^ r * 2 ^ (64 - r) := by rw [← Nat.pow_add, show r + (64 - r) = 64 by omega]
 have hlt : x0 / 2 ^ r < 2 ^ (64 - r) := by rw [Nat.div_lt_iff_lt_mul hc, Nat.mul_comm, ← hB]; exact hx0
 have e1 : x1 * 2 ^ (64 - r) % 18446744073709551616 = 2 ^ (64 - r) * (x1 % 2 ^ r) := by
   rw [Nat.mul_comm x1, hB, Nat.mul_comm (2 ^ r), Nat.mul_mod_mul_left]
 have e2 : (x0 + 18446744073709551616 * (x1 + 18446744073709551616 * y)) / 2 ^ r = x0 / 2 ^ r + 2 ^ (64 - r) * (x1 + 18446744073709551616 * y) := by
   have : x0 + 18446744073709551616 * (x1 + 18446744073709551616 * y) = x0 + 2 ^ r * (2 ^ (64 - r) * (x1 + 18446744073709551616 * y)) := by
     rw [← Nat.mul_assoc (2 ^ r), ← hB]
   rw [this, Nat.add_mul_div_left _ _ hc]
 rw [e1, e2, Nat.or_comm, ← Nat.two_pow_add_eq_or_of_lt hlt]
 have e3 : x0 / 2 ^ r + 2 ^ (64 - r) * (x1 + 18446744073709551616 * y) = x0 / 2 ^ r + 2 ^ (64 - r) * x1 + 18446744073709551616 * (2 ^ (64 - r) * y) := by
   rw [Nat.mul_add, Nat.add_assoc]; congr 2; rw [← Nat.mul_assoc, Nat.mul_comm (2 ^ (64 - r)), Nat.mul_assoc]
 rw [e3, Nat.add_mul_mod_self_left]
 have hx1 : x1 = 2 ^ r * (x1 / 2 ^ r) + x1 % 2 ^ r := (Nat.div_add_mod x1 (2 ^ r)).symm
 have e4 : x0 / 2 ^ r + 2 ^ (64 - r) * x1 = (2 ^ (64 - r) * (x1 % 2 ^ r) + x0 / 2 ^ r) + 18446744073709551616 * (x1 / 2 ^ r) := by
   conv => lhs; rw [hx1]
   rw [Nat.mul_add, ← Nat.mul_assoc, Nat.mul_comm (2 ^ (64 - r)) (2 ^ r), ← hB]; omega
 rw [e4, Nat.add_mul_mod_self_left]
 refine (Nat.mod_eq_of_lt ?_).symm
 have hm : x1 % 2 ^ r + 1 ≤ 2 ^ r := Nat.mod_lt _ hc
 calc 2 ^ (64 - r) * (x1 % 2 ^ r) + x0 / 2 ^ r < 2 ^ (64 - r) * (x1 % 2 ^ r) + 2 ^ (64 - r) := by omega
   _ = 2 ^ (64 - r) * (x1 % 2 ^ r + 1) := by rw [Nat.mul_add, Nat.mul_one]
   _ ≤ 2 ^ (64 - r) * 2 ^ r := Nat.mul_le_mul_left _ hm
   _ = 18446744073709551616 := by rw [Nat.mul_comm, ← hB]
theorem win_high_eq {ns : List Nat} (h : Small ns) (k : Nat) :
   (ns.getD (k / 64) 0 / 2 ^ (k % 64)) ||| (ns.getD (k / 64 + 1) 0 * 2 ^ (64 - k % 64) % 18446744073709551616) = val ns / 2 ^ k % 18446744073709551616 := by
 obtain ⟨y, hy⟩ := val_two (ns := ns) (k / 64)
 rw [or_eq _ _ y _ (small_getD h _) (Nat.mod_lt _ (by omega)), ← hy, ← val_div h, Nat.div_div_eq_div_mul, ← Nat.pow_add, Nat.div_add_mod]
def Topped (ns : List Nat) : Prop := ns ≠ [] → ns.getD (ns.length - 1) 0 ≠ 0
theorem val_lt {ns : List Nat} (h : Small ns) : val ns < 2 ^ (64 * ns.length) := by
 induction ns with
 | nil => simp [val]
 | cons a r ih =>
   have h0 : a < 18446744073709551616 := h a (by simp)
   have h1 := ih (fun n hn => h n (by simp [hn]))
   rw [List.length_cons, show 64 * (r.length + 1) = 64 + 64 * r.length by omega, Nat.pow_add, val, show (2 : Nat) ^ 64 = 18446744073709551616 from rfl]
   omega
theorem val_append (a b : List Nat) : val (a ++ b) = val a + 2 ^ (64 * a.length) * val b := by
 induction a with
 | nil => simp [val]
 | cons x r ih =>
   rw [List.cons_append, val, val, ih, List.length_cons, show 64 * (r.length + 1) = 64 + 64 * r.length by omega, Nat.pow_add, show (2 : Nat) ^ 64 = 18446744073709551616 from rfl, Nat.mul_add, Nat.mul_assoc, Nat.add_assoc]
theorem val_last {ns : List Nat} (hne : ns ≠ []) : val ns = val ns.dropLast + 2 ^ (64 * (ns.length - 1)) * ns.getD (ns.length - 1) 0 := by
 have h := List.dropLast_concat_getLast hne
 have hl : ns.getD (ns.length - 1) 0 = ns.getLast hne := by
   have hp := List.length_pos_iff.2 hne
   rw [List.getLast_eq_getElem, List.getD, List.getElem?_eq_getElem (by omega)]; rfl
 have h2 : val ns = val (ns.dropLast ++ [ns.getLast hne]) := by rw [h]
 rw [h2, val_append, hl]
 simp [val]
theorem log2_val {ns : List Nat} (h : Small ns) (hne : ns ≠ []) (ht : ns.getD (ns.length - 1) 0 ≠ 0) : Nat.log2 (val ns) = 64 * (ns.length - 1) + Nat.log2 (ns.getD (ns.length - 1) 0) := by
 have h1 : val ns.dropLast < 2 ^ (64 * (ns.length - 1)) := by
   have := val_lt (ns := ns.dropLast) (fun n hn => h n (List.dropLast_subset _ hn))
   simpa using this
 rw [val_last hne]
 generalize ns.getD (ns.length - 1) 0 = t at *
 generalize val ns.dropLast = v at *
 generalize 64 * (ns.length - 1) = e at *
 have h2 := Nat.log2_self_le ht
 have h3 : t < 2 ^ (Nat.log2 t + 1) := Nat.lt_log2_self
 have hp : 0 < 2 ^ e := Nat.two_pow_pos e
 have h5 : v + 2 ^ e * t ≠ 0 := by
   have := Nat.mul_pos hp (Nat.pos_of_ne_zero ht); omega
 rw [Nat.log2_eq_iff h5]
 refine ⟨?_, ?_⟩
 · rw [Nat.pow_add]
   exact Nat.le_trans (Nat.mul_le_mul_left _ h2) (Nat.le_add_left _ _)
 · have h6 : t + 1 ≤ 2 ^ (Nat.log2 t + 1) := h3
   have h7 := Nat.mul_le_mul_left (2 ^ e) h6
   rw [show e + Nat.log2 t + 1 = e + (Nat.log2 t + 1) by omega, Nat.pow_add]
   rw [Nat.mul_add, Nat.mul_one] at h7
   omega
theorem val_pos {ns : List Nat} (hne : ns ≠ []) (ht : ns.getD (ns.length - 1) 0 ≠ 0) : val ns ≠ 0 := by
 rw [val_last hne]
 have := Nat.mul_pos (Nat.two_pow_pos (64 * (ns.length - 1))) (Nat.pos_of_ne_zero ht)
 omega
def hiB (ns : List Nat) (low : Int) : Int := if ns = [] then 0 else low + (Nat.log2 (val ns) : Nat)
theorem castMul (a b : Nat) : (a : Int) * 2 ^ b % 18446744073709551616 = ((a * 2 ^ b % 18446744073709551616 : Nat) : Int) := by
 rw [Int.natCast_emod, Int.natCast_mul, Int.natCast_pow]; rfl
theorem castDiv (a b : Nat) : (a : Int) / 2 ^ b = ((a / 2 ^ b : Nat) : Int) := by
 rw [Int.natCast_ediv, Int.natCast_pow]; rfl
end

/- Plain facts: the words of a number, cut out at a bit; a magnitude in its own form. -/
section
def digs (X n : Nat) : List Nat := (List.range n).map fun i => X / 2 ^ (64 * i) % 18446744073709551616
theorem digs_length (X n : Nat) : (digs X n).length = n := by simp [digs]
theorem digs_small (X n : Nat) : Small (digs X n) := by
 intro m hm
 simp only [digs, List.mem_map] at hm
 obtain ⟨i, _, rfl⟩ := hm
 exact Nat.mod_lt _ (by omega)
theorem digs_getD (X n i : Nat) (h : i < n) : (digs X n).getD i 0 = X / 2 ^ (64 * i) % 18446744073709551616 := by
 simp [digs, List.getD, h]
theorem val_digs (X n : Nat) : val (digs X n) = X % 2 ^ (64 * n) := by
 induction n with
 | zero => simp [digs, val, Nat.mod_one]
 | succ n ih =>
   have e : digs X (n + 1) = digs X n ++ [X / 2 ^ (64 * n) % 18446744073709551616] := by simp [digs, List.range_succ]
   rw [e, val_append, ih, digs_length, show 64 * (n + 1) = 64 * n + 64 by omega, Nat.pow_add, Nat.mod_mul]
   simp [val]
theorem digs_topped (X n : Nat) (h0 : 2 ^ (64 * n) ≤ X) (h1 : X < 2 ^ (64 * (n + 1))) : Topped (digs X (n + 1)) := by
 intro _
 rw [digs_length, Nat.add_sub_cancel, digs_getD _ _ _ (by omega)]
 have hp : 0 < 2 ^ (64 * n) := Nat.two_pow_pos _
 have h2 : X / 2 ^ (64 * n) < 18446744073709551616 := by
   rw [Nat.div_lt_iff_lt_mul hp, show (18446744073709551616 : Nat) = 2 ^ 64 from rfl, ← Nat.pow_add, show 64 + 64 * n = 64 * (n + 1) by omega]
   exact h1
 rw [Nat.mod_eq_of_lt h2]
 have := Nat.div_le_div_right (c := 2 ^ (64 * n)) h0
 rw [Nat.div_self hp] at this
 omega
def OwnF (ns : List Nat) (low : Int) : Prop := (ns = [] ∧ low = 0) ∨ (ns ≠ [] ∧ val ns % 2 = 1 ∧ Topped ns)
def Tells (V : Nat) (low : Int) (ns' : List Nat) (low' : Int) : Prop := (V = 0 ∧ ns' = [] ∧ low' = 0) ∨ (V ≠ 0 ∧ ∃ k : Nat, low' = low + (k : Nat) ∧ V = val ns' * 2 ^ k)
theorem val_zero {ns : List Nat} (h : ∀ j, ns.getD j 0 = 0) : val ns = 0 := by
 induction ns with
 | nil => rfl
 | cons a r ih =>
   have h0 : a = 0 := by simpa using h 0
   have h1 := ih (fun j => by have := h (j + 1); simpa using this)
   rw [val, h0, h1]
theorem val_take {ns : List Nat} (e : Nat) (h : ∀ j, e ≤ j → ns.getD j 0 = 0) : val (ns.take e) = val ns := by
 conv => rhs; rw [← List.take_append_drop e ns]
 rw [val_append, val_zero (ns := ns.drop e), Nat.mul_zero, Nat.add_zero]
 intro j
 rw [getD_drop]; exact h _ (by omega)
theorem take_getD {ns : List Nat} (e j : Nat) (h : j < e) : (ns.take e).getD j 0 = ns.getD j 0 := by
 simp [List.getD, h]
theorem val_low {ns : List Nat} (hs : Small ns) (f : Nat) (h : ∀ j, j < f → ns.getD j 0 = 0) : val ns = 2 ^ (64 * f) * val (ns.drop f) := by
 have h1 : val (ns.take f) = 0 := by
   refine val_zero fun j => ?_
   by_cases hj : j < f
   · rw [take_getD f j hj]; exact h j hj
   · simp [List.getD, List.getElem?_eq_none (show (ns.take f).length ≤ j by simp; omega)]
 by_cases hf : f ≤ ns.length
 · conv => lhs; rw [← List.take_append_drop f ns]
   rw [val_append, h1, Nat.zero_add, List.length_take, Nat.min_eq_left hf]
 · have h2 : val ns = 0 := by rw [List.take_of_length_le (by omega)] at h1; exact h1
   rw [h2, ← val_div hs, h2]; simp
theorem own_math {ns : List Nat} (hs : Small ns) (low : Int) (f e t m : Nat) (hfe : f < e) (hel : e ≤ ns.length) (hhi : ∀ j, e ≤ j → ns.getD j 0 = 0) (htop : ns.getD (e - 1) 0 ≠ 0) (hlo : ∀ j, j < f → ns.getD j 0 = 0) (hf : ns.getD f 0 = 2 ^ t * (2 * m + 1)) (ht : t < 64) :
   64 * f + t ≤ Nat.log2 (val ns) ∧ Nat.log2 (val ns) < 64 * e ∧ Topped (ns.take e) ∧ val (ns.take e) = val ns ∧
   (∀ n r, r < 64 → Nat.log2 (val ns) - (64 * f + t) = 64 * n + r →
     OwnF (digs (val ns / 2 ^ (64 * f + t)) (n + 1)) (low + (64 * f + t : Nat)) ∧ Tells (val ns) low (digs (val ns / 2 ^ (64 * f + t)) (n + 1)) (low + (64 * f + t : Nat)) ∧ n + 1 ≤ e) := by
 have hv1 := val_take e hhi
 have hlen : (ns.take e).length = e := by simp; omega
 have hne : ns.take e ≠ [] := by intro h; rw [h] at hlen; simp at hlen; omega
 have htp : (ns.take e).getD (e - 1) 0 ≠ 0 := by rw [take_getD _ _ (by omega)]; exact htop
 have hst : Small (ns.take e) := fun n hn => hs n (List.mem_of_mem_take hn)
 have hlog := log2_val hst hne (by rw [hlen]; exact htp)
 rw [hlen, hv1] at hlog
 have hlt : Nat.log2 ((ns.take e).getD (e - 1) 0) < 64 := (Nat.log2_lt htp).2 (small_getD hst _)
 have hv0 : val ns ≠ 0 := by rw [← hv1]; exact val_pos hne (by rw [hlen]; exact htp)
 -- the odd part
 have hv2 := val_low hs f hlo
 obtain ⟨y, hy⟩ : ∃ y, val (ns.drop f) = 2 ^ t * (2 * y + 1) := by
   rw [val_split (ns.drop f), getD_drop, Nat.add_zero, hf]
   refine ⟨m + 2 ^ (63 - t) * val ((ns.drop f).drop 1), ?_⟩
   have e1 : 18446744073709551616 = 2 ^ t * (2 * 2 ^ (63 - t)) := by
     rw [← Nat.pow_succ', ← Nat.pow_add, show t + (63 - t + 1) = 64 by omega]
   generalize val ((ns.drop f).drop 1) = z
   rw [e1]
   generalize 2 ^ t = p
   generalize 2 ^ (63 - t) = q
   grind
 have hodd : val ns = 2 ^ (64 * f + t) * (2 * y + 1) := by rw [hv2, hy, Nat.pow_add, Nat.mul_assoc]
 have hp : 0 < 2 ^ (64 * f + t) := Nat.two_pow_pos _
 have hX : val ns / 2 ^ (64 * f + t) = 2 * y + 1 := by rw [hodd, Nat.mul_div_cancel_left _ hp]
 have hle : 64 * f + t ≤ Nat.log2 (val ns) := by
   rw [Nat.le_log2 hv0, hodd]
   exact Nat.le_mul_of_pos_right _ (by omega)
 refine ⟨hle, by omega, fun _ => by rw [hlen]; exact htp, hv1, ?_⟩
 intro n r hr hn
 have hL1 := Nat.log2_self_le hv0
 have hL2 : val ns < 2 ^ (Nat.log2 (val ns) + 1) := Nat.lt_log2_self
 have hXlo : 2 ^ (64 * n) ≤ val ns / 2 ^ (64 * f + t) := by
   rw [Nat.le_div_iff_mul_le hp, ← Nat.pow_add]
   exact Nat.le_trans (Nat.pow_le_pow_right (by omega) (by omega)) hL1
 have hXhi : val ns / 2 ^ (64 * f + t) < 2 ^ (64 * (n + 1)) := by
   rw [Nat.div_lt_iff_lt_mul hp, ← Nat.pow_add]
   exact Nat.lt_of_lt_of_le hL2 (Nat.pow_le_pow_right (by omega) (by omega))
 have hval : val (digs (val ns / 2 ^ (64 * f + t)) (n + 1)) = 2 * y + 1 := by rw [val_digs, Nat.mod_eq_of_lt hXhi, hX]
 refine ⟨Or.inr ⟨?_, by rw [hval]; omega, digs_topped _ _ hXlo hXhi⟩, Or.inr ⟨hv0, 64 * f + t, rfl, ?_⟩, by omega⟩
 · intro h
   have := digs_length (val ns / 2 ^ (64 * f + t)) (n + 1)
   rw [h] at this; simp at this
 · rw [hval, hodd, Nat.mul_comm]
end

/- Plain facts: two magnitudes brought to one lowest bit. -/
section
theorem own_topped {ns : List Nat} {low : Int} (h : OwnF ns low) : Topped ns := by
 rcases h with ⟨rfl, _⟩ | ⟨_, _, h⟩
 · intro h; exact absurd rfl h
 · exact h
theorem own_val {ns : List Nat} {low : Int} (h : OwnF ns low) (hne : ns ≠ []) : val ns ≠ 0 := by
 rcases h with ⟨rfl, _⟩ | ⟨_, h, _⟩
 · exact absurd rfl hne
 · omega
theorem own_low_hi {ns : List Nat} {low : Int} (h : OwnF ns low) : low ≤ hiB ns low := by
 unfold hiB
 rcases h with ⟨rfl, rfl⟩ | ⟨hne, _, _⟩
 · simp
 · rw [if_neg hne]; omega
theorem val_hi {ns : List Nat} {low L : Int} (h : OwnF ns low) (k : Nat) (hk : low = L + (k : Nat)) (e : Nat) (he : hiB ns low - L + 1 ≤ (e : Nat)) : val ns * 2 ^ k < 2 ^ e := by
 rcases h with ⟨rfl, _⟩ | ⟨hne, _, _⟩
 · simp only [val, Nat.zero_mul]; exact Nat.two_pow_pos e
 · unfold hiB at he
   rw [if_neg hne] at he
   have h1 : val ns < 2 ^ (Nat.log2 (val ns) + 1) := Nat.lt_log2_self
   have h2 : val ns * 2 ^ k < 2 ^ (Nat.log2 (val ns) + 1) * 2 ^ k := Nat.mul_lt_mul_of_pos_right h1 (Nat.two_pow_pos k)
   rw [← Nat.pow_add] at h2
   exact Nat.lt_of_lt_of_le h2 (Nat.pow_le_pow_right (by omega) (by omega))
theorem val_digs_of {X n : Nat} (h : X < 2 ^ (64 * n)) : val (digs X n) = X := by rw [val_digs, Nat.mod_eq_of_lt h]
end

/- Walks of the small functions of package whole: what each of them answers, for every magnitude. -/
section
open Go.RowKit
structure Ws (w : World) (s : Value) (ns : List Nat) : Prop where
 shape : ∃ a cap, s = .slice a ns.length cap ∧ ns.length ≤ cap ∧ (ns = [] ∨ ∃ b off, a = some ⟨b, off, none⟩ ∧ b < w.heap.size ∧ ∀ j, j < ns.length → w.cell? ⟨b, off + j, none⟩ = some (.int .u64 (ns.getD j 0 : Nat)))
 small : ∀ n, n ∈ ns → n < 18446744073709551616
 short : ns.length ≤ 1000000
theorem Ws.later {w w' : World} {s : Value} {ns : List Nat} {B : Nat} (h : Ws w s ns) (hb : Below B w w') (hB : w.heap.size ≤ B) : Ws w' s ns := by
 obtain ⟨⟨a, cap, hs, hcap, hc⟩, h2, h3⟩ := h
 refine ⟨⟨a, cap, hs, hcap, ?_⟩, h2, h3⟩
 rcases hc with hc | ⟨b, off, ha, hbs, hc⟩
 · exact Or.inl hc
 · exact Or.inr ⟨b, off, ha, Nat.lt_of_lt_of_le hbs hb.size, fun j hj => (hb.cell (by exact Nat.lt_of_lt_of_le hbs hB)).trans (hc j hj)⟩
set_option maxHeartbeats 400000 in
theorem isZero_any (a : Option Addr) (len cap : Nat) (low : Int) (w : World) :
   Calls Tryd.prog 23 #[.agg #[.slice a len cap, .int .i64 low]] w fun e w' => e = .returned (.bool ((len : Int) == 0)) ∧ Below w.heap.size w w' := by
 go_enter Tryd.func23, Tryd.ntmps23
 go_wp2
 go_ret
 exact ⟨rfl, (Below.refl _ _).alloc (Nat.le_refl _) _⟩
set_option maxHeartbeats 400000 in
theorem lowest_any (a : Option Addr) (len cap : Nat) (low : Int) (w : World) :
   Calls Tryd.prog 36 #[.agg #[.slice a len cap, .int .i64 low]] w fun e w' => e = .returned (.int .i64 low) ∧ Below w.heap.size w w' := by
 go_enter Tryd.func36, Tryd.ntmps36
 go_wp2
 go_ret
 exact ⟨rfl, (Below.refl _ _).alloc (Nat.le_refl _) _⟩
set_option maxHeartbeats 400000 in
theorem word_out (a : Option Addr) (len cap : Nat) (low : Int) (i : Nat) (w : World) (hi : len ≤ i) :
   Calls Tryd.prog 52 #[.agg #[.slice a len cap, .int .i64 low], .int .i64 i] w fun e w' => e = .returned (.int .u64 0) ∧ Below w.heap.size w w' := by
 go_enter Tryd.func52, Tryd.ntmps52
 go_wp2
 go_ret
 exact ⟨rfl, (Below.refl _ _).alloc (Nat.le_refl _) _⟩
set_option maxHeartbeats 400000 in
theorem word_in (b off len cap : Nat) (low : Int) (i : Nat) (n : Int) (w : World) (hi : i < len) (hb : b < w.heap.size) (hc : w.cell? ⟨b, off + i, none⟩ = some (.int .u64 n)) :
   Calls Tryd.prog 52 #[.agg #[.slice (some ⟨b, off, none⟩) len cap, .int .i64 low], .int .i64 i] w fun e w' => e = .returned (.int .u64 n) ∧ Below w.heap.size w w' := by
 go_enter Tryd.func52, Tryd.ntmps52
 go_wp2
 go_ret
 exact ⟨rfl, (Below.refl _ _).alloc (Nat.le_refl _) _⟩
theorem word_any (s : Value) (ns : List Nat) (low i : Int) (w : World) (h : Ws w s ns) (hi : 0 ≤ i) :
   Calls Tryd.prog 52 #[.agg #[s, .int .i64 low], .int .i64 i] w fun e w' => e = .returned (.int .u64 (ns.getD i.toNat 0 : Nat)) ∧ Below w.heap.size w w' := by
 obtain ⟨n, rfl⟩ := Int.eq_ofNat_of_zero_le hi
 obtain ⟨⟨a, cap, rfl, _, hc⟩, h2, h3⟩ := h
 rw [Int.toNat_natCast]
 by_cases hlt : n < ns.length
 · rcases hc with rfl | ⟨b, off, rfl, hb, hc⟩
   · simp at hlt
   · exact word_in b off _ cap low n _ w hlt hb (hc n hlt)
 · have : ns.getD n 0 = 0 := by simp [List.getD, List.getElem?_eq_none (Nat.le_of_not_lt hlt)]
   rw [this]
   exact word_out a _ cap low n w (by omega)
end

/- Walks of window and span. -/
section
open Go.RowKit
attribute [local go_sem ↓] Go.wp_at_zero Go.wp_at_succ
theorem wrapI (x : Int) (h : -4611686018427387904 ≤ x) (h' : x ≤ 4611686018427387904) : IntKind.i64.wrap x = x := by
 rw [IntKind.wrap_i64]; omega
theorem keep2 {w W W' : World} {p q : Addr} {x y : Value} (h : W.cell? p = some x ∧ W.cell? q = some y ∧ Below w.heap.size w W) (hb : Below W.heap.size W W') : W'.cell? p = some x ∧ W'.cell? q = some y ∧ Below w.heap.size w W' :=
 ⟨cell_later hb h.1, cell_later hb h.2.1, h.2.2.trans (hb.mono h.2.2.size)⟩
set_option maxHeartbeats 1000000 in
theorem window_low (s : Value) (ns : List Nat) (low at' : Int) (w : World) (h : Ws w s ns) (hlt : at' < low) (h1 : -1000000000 ≤ at') (h2 : low ≤ 1000000000) :
   Calls Tryd.prog 40 #[.agg #[s, .int .i64 low], .int .i64 at'] w fun e w' => e = .returned (.int .u64 (IntKind.u64.wrap ((ns.getD 0 0 : Nat) * 2 ^ min (low - at').toNat 64))) ∧ Below w.heap.size w w' := by
 obtain ⟨a, cap, rfl, _, hc⟩ := h.shape
 have hw1 : IntKind.i64.wrap (low - at') = low - at' := wrapI _ (by omega) (by omega)
 have hw2 : at' ≤ low := by omega
 go_enter Tryd.func40, Tryd.ntmps40
 go_wp2
 go_region_held3 (fun w' => w'.cell? ⟨w.heap.size, 0, none⟩ = some (.slice a ns.length cap) ∧ w'.cell? ⟨w.heap.size, 1, none⟩ = some (.int .i64 low) ∧ Below w.heap.size w w')
   (first | exact ⟨by simp, by simp, ((Below.refl _ _).alloc (Nat.le_refl _) _).drew⟩ | exact ⟨cell_later (by assumption) (by simp), cell_later (by assumption) (by simp), (((Below.refl _ _).alloc (Nat.le_refl _) _).drew).trans ((by assumption : Below _ _ _).mono (by simp))⟩ | (trace_state; fail))
   (first | (go_at_call 52; refine (word_any _ ns _ _ _ ?_ ?_).mono ?_; exact h.later (((Below.refl _ _).alloc (Nat.le_refl _) _).drew) (Nat.le_refl _); omega; rintro e w' ⟨rfl, hb⟩))
 go_wp2
 go_ret
 exact ⟨rfl, (by assumption : _ ∧ _ ∧ _).2.2⟩
set_option maxHeartbeats 1000000 in
theorem window_high (s : Value) (ns : List Nat) (low : Int) (k p r : Nat) (w : World) (h : Ws w s ns) (h3 : k ≤ 1000000000) (hp : p = k / 64) (hr : r = k % 64) :
   Calls Tryd.prog 40 #[.agg #[s, .int .i64 low], .int .i64 (low + k)] w fun e w' => e = .returned (.int .u64 (bits .or .u64 ((ns.getD p 0 : Nat) / 2 ^ min r 64) (IntKind.u64.wrap ((ns.getD (p + 1) 0 : Nat) * 2 ^ min (64 - r) 64)))) ∧ Below w.heap.size w w' := by
 obtain ⟨a, cap, rfl, _, hc⟩ := h.shape
 have hw0 : ¬ (low + (k : Int)) < low := by omega
 have hw1 : IntKind.i64.wrap (low + (k : Int) - low) = (k : Int) := by rw [show low + (k : Int) - low = (k : Int) by omega]; exact wrapI _ (by omega) (by omega)
 have hw3 : (k : Int) ≤ 1000000000 := by omega
 have hq1 : IntKind.i64.wrap ((k : Int) / 64) = (p : Int) := by rw [wrapI _ (by omega) (by omega)]; omega
 have hq2 : (k : Int).tmod 64 = (r : Int) := by rw [Int.tmod_eq_emod_of_nonneg (by omega)]; omega
 have hq3 : IntKind.i64.wrap ((p : Int) + 1) = (p : Int) + 1 := wrapI _ (by omega) (by omega)
 have hq4 : IntKind.i64.wrap (64 - (r : Int)) = 64 - (r : Int) := wrapI _ (by omega) (by omega)
 have hq5 : (r : Int) ≤ 64 := by omega
 have hq6 : (64 - (r : Int)).toNat = 64 - r := by omega
 clear hp hr
 go_enter Tryd.func40, Tryd.ntmps40
 go_wp2
 go_region_held3 (fun w' => w'.cell? ⟨w.heap.size, 0, none⟩ = some (.slice a ns.length cap) ∧ w'.cell? ⟨w.heap.size, 1, none⟩ = some (.int .i64 low) ∧ Below w.heap.size w w')
   (first | exact ⟨by simp, by simp, ((Below.refl _ _).alloc (Nat.le_refl _) _).drew⟩)
   (fail)
 go_wp2
 go_region_held3 (fun w' => w'.cell? ⟨w.heap.size, 0, none⟩ = some (.slice a ns.length cap) ∧ w'.cell? ⟨w.heap.size, 1, none⟩ = some (.int .i64 low) ∧ Below w.heap.size w w')
   (first
      | exact ⟨by simp, by simp, ((Below.refl _ _).alloc (Nat.le_refl _) _).drew.drew⟩
      | exact ⟨cell_later (by assumption) (by simp [*]), cell_later (by assumption) (by simp [*]), (((Below.refl _ _).alloc (Nat.le_refl _) _).drew.drew).trans ((by assumption : Below _ _ _).mono (by simp))⟩
      | exact keep2 (by assumption) (by assumption))
   (first | (go_at_call 52; refine (word_any _ ns _ _ _ ?_ ?_).mono ?_; (first | exact h.later (((Below.refl _ _).alloc (Nat.le_refl _) _).drew.drew) (Nat.le_refl _) | exact h.later ((by assumption : _ ∧ _ ∧ _).2.2) (Nat.le_refl _)); omega; rintro e w' ⟨rfl, hb⟩))
 go_wp2
 go_ret
 refine ⟨?_, (by assumption : _ ∧ _ ∧ _).2.2⟩
 have e1 : min r 64 = r := by omega
 have e2 : min (64 - r) 64 = 64 - r := by omega
 rw [e1, e2]
 rfl
theorem window_any (s : Value) (ns : List Nat) (low at' : Int) (w : World) (h : Ws w s ns) (h1 : -400000000 ≤ low) (h2 : low ≤ 400000000) (h3 : -400000000 ≤ at') (h4 : at' ≤ 400000000) :
   Calls Tryd.prog 40 #[.agg #[s, .int .i64 low], .int .i64 at'] w fun e w' => e = .returned (.int .u64 (win ns low at' : Nat)) ∧ Below w.heap.size w w' := by
 by_cases hlt : at' < low
 · refine (window_low s ns low at' w h hlt (by omega) (by omega)).mono fun e w' he => ⟨he.1.trans ?_, he.2⟩
   rw [IntKind.wrap_u64]
   unfold win
   rw [if_pos hlt, ← win_low_eq, castMul]
 · obtain ⟨k, hk⟩ : ∃ k : Nat, at' = low + (k : Int) := ⟨(at' - low).toNat, by omega⟩
   subst hk
   refine (window_high s ns low k _ _ w h (by omega) rfl rfl).mono fun e w' he => ⟨he.1.trans ?_, he.2⟩
   have hs : Small ns := h.small
   unfold win
   rw [if_neg hlt, show (low + (k : Int) - low).toNat = k by omega, ← win_high_eq hs, IntKind.wrap_u64]
   have e1 : min (k % 64) 64 = k % 64 := by omega
   have e2 : min (64 - k % 64) 64 = 64 - k % 64 := by omega
   have b1 : ns.getD (k / 64) 0 / 2 ^ (k % 64) < 18446744073709551616 := Nat.lt_of_le_of_lt (Nat.div_le_self _ _) (small_getD hs _)
   have b2 : ns.getD (k / 64 + 1) 0 * 2 ^ (64 - k % 64) % 18446744073709551616 < 18446744073709551616 := Nat.mod_lt _ (by omega)
   rw [e1, e2, ← u64_or_nat _ _ b1 b2, castMul, castDiv]
end
end Go.Proofs.YtlpnobcapdbfkaaDoor
