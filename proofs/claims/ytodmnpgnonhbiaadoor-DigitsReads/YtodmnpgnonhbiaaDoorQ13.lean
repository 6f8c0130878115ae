/- Own texts, put together: Ya. -/
import Derived.Test.YtodmnpgnonhbiaaDoorQ8
/- The number that digits below 2^24 tell, plainly. -/
namespace Go.Proofs.YtodmnpgnonhbiaaDoor
def v24 : List Nat → Nat
 | [] => 0
 | n :: r => n + 16777216 * v24 r
theorem p24 (k : Nat) : 2 ^ (24 * (k + 1)) = 16777216 * 2 ^ (24 * k) := by
 rw [show 24 * (k + 1) = 24 + 24 * k by omega, Nat.pow_add]
theorem v24_append (a b : List Nat) : v24 (a ++ b) = v24 a + 2 ^ (24 * a.length) * v24 b := by
 induction a with
 | nil => simp [v24]
 | cons x r ih => rw [List.cons_append, v24, v24, ih, List.length_cons, p24]; grind
theorem v24_snoc (a : List Nat) (x : Nat) : v24 (a ++ [x]) = v24 a + 2 ^ (24 * a.length) * x := by
 rw [v24_append]; simp [v24]
theorem v24_take_succ (l : List Nat) (k : Nat) : v24 (l.take (k + 1)) = v24 (l.take k) + 2 ^ (24 * k) * l.getD k 0 := by
 by_cases hk : k < l.length
 · rw [List.take_succ_eq_append_getElem hk, v24_append, List.length_take, Nat.min_eq_left (by omega)]
   simp [v24, List.getD, hk]
 · rw [List.take_of_length_le (by omega), List.take_of_length_le (by omega)]
   simp [List.getD, List.getElem?_eq_none (Nat.le_of_not_lt hk)]
theorem v24_lt {ds : List Nat} (h : ∀ d ∈ ds, d < 16777216) : v24 ds < 2 ^ (24 * ds.length) := by
 induction ds with
 | nil => simp [v24]
 | cons x r ih =>
   have h0 : x < 16777216 := h x (by simp)
   have h1 := ih (fun d hd => h d (by simp [hd]))
   rw [v24, List.length_cons, p24]
   omega
theorem v24_mod {ds : List Nat} (h : ∀ d ∈ ds, d < 16777216) : v24 ds % 16777216 = ds.getD 0 0 := by
 cases ds with
 | nil => simp [v24]
 | cons x r =>
   have h0 : x < 16777216 := h x (by simp)
   simp only [v24, List.getD_cons_zero]
   omega
def ms (f : Int → Nat) (L : Int) : Nat → Nat
 | 0 => 0
 | n + 1 => ms f L n + 2 ^ (24 * n) * f (L + (n : Int))
theorem ms_congr {f g : Int → Nat} (h : ∀ j, f j = g j) (L : Int) (n : Nat) : ms f L n = ms g L n := by
 induction n with
 | zero => rfl
 | succ n ih => rw [ms, ms, ih, h]
theorem ms_add (f : Int → Nat) (L : Int) (k n : Nat) : ms f L (k + n) = ms f L k + 2 ^ (24 * k) * ms f (L + (k : Int)) n := by
 induction n with
 | zero => simp [ms]
 | succ n ih =>
   rw [← Nat.add_assoc, ms, ih, ms, show 24 * (k + n) = 24 * k + 24 * n by omega, Nat.pow_add, show L + (k : Int) + (n : Int) = L + ((k + n : Nat) : Int) by omega]
   grind
theorem ms_zero {f : Int → Nat} {L : Int} {n : Nat} (h : ∀ i, L ≤ i → i < L + (n : Int) → f i = 0) : ms f L n = 0 := by
 induction n with
 | zero => rfl
 | succ n ih => rw [ms, ih (fun i h1 h2 => h i h1 (by omega)), h _ (by omega) (by omega)]; simp
theorem ms_lt {f : Int → Nat} (h : ∀ i, f i < 16777216) (L : Int) (n : Nat) : ms f L n < 2 ^ (24 * n) := by
 induction n with
 | zero => simp [ms]
 | succ n ih =>
   rw [ms, p24]
   have h1 : f (L + (n : Int)) + 1 ≤ 16777216 := h _
   have h2 := Nat.mul_le_mul_left (2 ^ (24 * n)) h1
   rw [Nat.mul_add, Nat.mul_one, Nat.mul_comm _ 16777216] at h2
   omega
theorem ms_less {f g : Int → Nat} (hg : ∀ i, g i < 16777216) {L i : Int} {n : Nat} (h1 : L ≤ i) (h2 : i < L + (n : Int)) (heq : ∀ j, i < j → f j = g j) (hlt : g i < f i) : ms g L n < ms f L n := by
 obtain ⟨k, rfl⟩ : ∃ k : Nat, i = L + (k : Int) := ⟨(i - L).toNat, by omega⟩
 obtain ⟨m, rfl⟩ : ∃ m, n = k + 1 + m := ⟨n - k - 1, by omega⟩
 rw [ms_add, ms_add f]
 have e : ms g (L + ((k + 1 : Nat) : Int)) m = ms f (L + ((k + 1 : Nat) : Int)) m := by
   have : ∀ q : Nat, ms g (L + ((k + 1 : Nat) : Int)) q = ms f (L + ((k + 1 : Nat) : Int)) q := by
     intro q
     induction q with
     | zero => rfl
     | succ q ih => rw [ms, ms, ih, heq _ (by omega)]
   exact this m
 rw [e, ms, ms]
 have h3 := ms_lt hg L k
 have h4 : g (L + (k : Int)) + 1 ≤ f (L + (k : Int)) := hlt
 have h5 := Nat.mul_le_mul_left (2 ^ (24 * k)) h4
 rw [Nat.mul_add, Nat.mul_one] at h5
 omega
def dg (ds : List Nat) (E j : Int) : Nat := if E ≤ j then ds.getD (j - E).toNat 0 else 0
theorem dg_small {ds : List Nat} (h : ∀ d ∈ ds, d < 16777216) (E j : Int) : dg ds E j < 16777216 := by
 unfold dg
 split
 · by_cases hi : (j - E).toNat < ds.length
   · have e : ds.getD (j - E).toNat 0 = ds[(j - E).toNat] := by simp [List.getD, hi]
     rw [e]; exact h _ (List.getElem_mem hi)
   · simp [List.getD, List.getElem?_eq_none (Nat.le_of_not_lt hi)]
 · omega
theorem ms_dg (ds : List Nat) (E : Int) (k : Nat) : ms (dg ds E) E k = v24 (ds.take k) := by
 induction k with
 | zero => simp [ms, v24]
 | succ k ih =>
   rw [ms, ih, v24_take_succ]
   unfold dg
   rw [if_pos (by omega), show (E + (k : Int) - E).toNat = k by omega]
def mag (ds : List Nat) (E : Int) : Rat := (v24 ds : Nat) * p2 (24 * E)
theorem mag_ms {ds : List Nat} {E L : Int} {n : Nat} (h1 : L ≤ E) (h2 : E + (ds.length : Int) ≤ L + (n : Int)) : mag ds E = (ms (dg ds E) L n : Nat) * p2 (24 * L) := by
 obtain ⟨k, rfl⟩ : ∃ k : Nat, E = L + (k : Int) := ⟨(E - L).toNat, by omega⟩
 obtain ⟨m, rfl⟩ : ∃ m, n = k + m := ⟨n - k, by omega⟩
 rw [ms_add, ms_zero (n := k) (fun i a b => by unfold dg; rw [if_neg (by omega)]), ms_dg, List.take_of_length_le (by omega), Nat.zero_add]
 unfold mag
 rw [show 24 * (L + (k : Int)) = ((24 * k : Nat) : Int) + 24 * L by omega, p2_add, p2_nat, Rat.natCast_mul]
 grind
theorem mag_congr {ds ds' : List Nat} {E E' : Int} (h : ∀ j, dg ds' E' j = dg ds E j) : mag ds' E' = mag ds E := by
 have a1 : min E E' ≤ E := by omega
 have a2 : min E E' ≤ E' := by omega
 have b1 : E + (ds.length : Int) ≤ min E E' + (((E - min E E').toNat + (E' - min E E').toNat + ds.length + ds'.length : Nat) : Int) := by omega
 have b2 : E' + (ds'.length : Int) ≤ min E E' + (((E - min E E').toNat + (E' - min E E').toNat + ds.length + ds'.length : Nat) : Int) := by omega
 rw [mag_ms a1 b1, mag_ms a2 b2, ms_congr h]
theorem mag_nil (E : Int) : mag [] E = 0 := by unfold mag; simp [v24]
theorem v24_last {ds : List Nat} (hne : ds ≠ []) (ht : ds.getD (ds.length - 1) 0 ≠ 0) : 2 ^ (24 * (ds.length - 1)) ≤ v24 ds := by
 have hl := List.length_pos_iff.2 hne
 have e := v24_take_succ ds (ds.length - 1)
 rw [show ds.length - 1 + 1 = ds.length by omega, List.take_length] at e
 rw [e]
 have := Nat.mul_le_mul_left (2 ^ (24 * (ds.length - 1))) (Nat.pos_of_ne_zero ht)
 omega
theorem mag_pos {ds : List Nat} {E : Int} (hne : ds ≠ []) (ht : ds.getD (ds.length - 1) 0 ≠ 0) : 0 < mag ds E := by
 have h := v24_last hne ht
 have h2 := Nat.two_pow_pos (24 * (ds.length - 1))
 unfold mag
 refine Rat.mul_pos ?_ (p2_pos _)
 have : 0 < v24 ds := by omega
 exact_mod_cast this
theorem mag_top {ds : List Nat} {E h : Int} (hne : ds ≠ []) (ht : ds.getD (ds.length - 1) 0 ≠ 0) (hb : mag ds E < p2 h) : 24 * (E + (ds.length : Int)) < h + 24 := by
 have h1 := v24_last hne ht
 have hl := List.length_pos_iff.2 hne
 have h2 : p2 (24 * (E + (ds.length : Int) - 1)) ≤ mag ds E := by
   rw [show 24 * (E + (ds.length : Int) - 1) = ((24 * (ds.length - 1) : Nat) : Int) + 24 * E by omega, p2_add, p2_nat]
   unfold mag
   exact Rat.mul_le_mul_of_nonneg_right (Rat.natCast_le_natCast.2 h1) (Rat.le_of_lt (p2_pos _))
 have h3 : p2 (24 * (E + (ds.length : Int) - 1)) < p2 h := by grind
 have := p2_lt_iff.1 h3
 omega
theorem mag_low {ds : List Nat} {E l : Int} (hs : ∀ d ∈ ds, d < 16777216) (hf : ds.getD 0 0 ≠ 0) (hm : ∃ n : Int, mag ds E = (n : Rat) * p2 l) : l < 24 * E + 24 := by
 rcases Int.lt_or_le l (24 * E + 24) with h | h
 · exact h
 · exfalso
   obtain ⟨n, hn⟩ := hm
   obtain ⟨k, rfl⟩ : ∃ k : Nat, l = 24 * E + 24 + (k : Int) := ⟨(l - (24 * E + 24)).toNat, by omega⟩
   rw [show 24 * E + 24 + (k : Int) = ((24 + k : Nat) : Int) + 24 * E by omega, p2_add, p2_nat, ← Rat.mul_assoc] at hn
   unfold mag at hn
   have h1 : ((v24 ds : Nat) : Rat) = (n : Rat) * ((2 ^ (24 + k) : Nat) : Rat) := by
     have hp := p2_ne (24 * E)
     have := congrArg (· / p2 (24 * E)) hn
     simp only [Rat.mul_div_cancel hp] at this
     exact this
   have h2 : ((v24 ds : Nat) : Int) = n * ((2 ^ (24 + k) : Nat) : Int) := by exact_mod_cast h1
   have h3 := v24_mod hs
   rw [Nat.pow_add, show (2 : Nat) ^ 24 = 16777216 from rfl] at h2
   have h4 : ((v24 ds : Nat) : Int) % 16777216 = 0 := by
     rw [h2, Int.natCast_mul, show n * (((16777216 : Nat) : Int) * ((2 ^ k : Nat) : Int)) = n * ((2 ^ k : Nat) : Int) * 16777216 by grind]
     exact Int.mul_emod_left _ _
   omega
end Go.Proofs.YtodmnpgnonhbiaaDoor
